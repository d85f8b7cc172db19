/-
  The walk of CacheTags.
-/
import Derived.Test.YtjfdjlinjghddaaCacheI
namespace Go.Proofs.Ytjfdjlinjghddaa
open Go.ChangeShapes Go.WideShapes Go.ChangeAt Go.RowKit

theorem tg_ge {K V : Nat} {S : Sets} (h : SOK K V S) (i : Nat) : -1 ≤ tg S V i := by
  unfold tg wy
  cases e : (S (i / V))[i % V]? with
  | none => simp
  | some y => have := h.nn _ y (List.mem_of_getElem? e); simp; omega
theorem tg_mem {S : Sets} {V i : Nat} (hx : 0 ≤ tg S V i) : (S (i / V))[i % V]? = some (tg S V i) := by
  unfold tg wy at *
  cases e : (S (i / V))[i % V]? with
  | none => rw [e] at hx; simp at hx
  | some y => simp
theorem tg_mod {K V : Nat} {S : Sets} (h : SOK K V S) {i : Nat} (hx : 0 ≤ tg S V i) : tg S V i % (K : Int) = ((i / V : Nat) : Int) :=
  h.mod _ _ (List.mem_of_getElem? (tg_mem hx))
theorem tg_prev {K V : Nat} {S : Sets} (h : SOK K V S) {i : Nat} (hV : 0 < V) (hx : 0 ≤ tg S V i) (hi : 0 < i % V) : 0 ≤ tg S V (i - 1) := by
  have hm := tg_mem hx
  have hlt := (List.getElem?_eq_some_iff.1 hm).1
  have hdm := Nat.div_add_mod i V
  have hd : (i - 1) / V = i / V ∧ (i - 1) % V = i % V - 1 := by
    have hml := Nat.mod_lt i hV
    have := kV_in (V := V) (k := i / V) (i := i - 1) hV (by rw [Nat.mul_comm]; omega) (by rw [Nat.mul_comm]; omega)
    refine ⟨this.1, ?_⟩
    rw [this.2, Nat.mul_comm]; omega
  unfold tg wy
  rw [hd.1, hd.2, List.getElem?_eq_getElem (by omega)]
  exact h.nn _ _ (List.getElem_mem _)
theorem tg_ne {K V : Nat} {S : Sets} (h : SOK K V S) {i j : Nat} (hj : j < i) (hx : 0 ≤ tg S V i) : tg S V i ≠ tg S V j := by
  intro e
  have hm := tg_mem hx
  have hm2 := tg_mem (e ▸ hx)
  have a1 := tg_mod h hx
  have a2 := tg_mod h (e ▸ hx)
  rw [e, a2] at a1
  have a3 : j / V = i / V := by omega
  rw [e, a3.symm] at hm
  have hlt := (List.getElem?_eq_some_iff.1 hm2).1
  have hlt2 := (List.getElem?_eq_some_iff.1 hm).1
  have h1 := (List.getElem?_eq_some_iff.1 hm2).2
  have h2 := (List.getElem?_eq_some_iff.1 hm).2
  have d1 := Nat.div_add_mod i V
  have d2 := Nat.div_add_mod j V
  rw [a3] at d2
  exact List.pairwise_iff_getElem.1 (h.nd (j / V)) (j % V) (i % V) hlt hlt2 (by omega) (h1.trans h2.symm)

set_option maxRecDepth 10000 in
set_option maxHeartbeats 4000000 in
theorem cacheTags_walk (a0 : Option Addr) (len0 cap0 : Nat) (z0 : List Int) (w : World) (r0 : Row .i64 w a0 len0 cap0 z0) :
    Calls Try.prog 5 #[.slice a0 len0 cap0] w fun e w' => e = .returned (.bool true) ∧ Below w.heap.size w w' := by
  obtain ⟨hm0, p0⟩ := r0.plain
  unfold maxLen at hm0
  clear r0
  go_enter Try.func5, Try.ntmps5
  go_wp2_with (go_at_call 9; refine (cnew_any _ _).mono ?_; rintro e w1 ⟨rfl, hC, hT⟩; rw [many1] at hC; have hlo := hT.size; generalize w.heap.size + 4 = b at hC; obtain ⟨hi, hhi⟩ : ∃ hi, w1.heap.size = hi := ⟨_, rfl⟩; rw [hhi] at hC hlo)
  go_loopg [4] 40 (fun g i wr => ∃ k : Nat, g + k = 40 ∧ i = .int .i64 k ∧ ∃ q, CAt wr b w.heap.size hi q ∧ q.n = 1 ∧ Touch Nil w wr ∧ hi ≤ wr.heap.size)
  case atStart => exact ⟨0, by omega, rfl, _, hC, rfl, hT, by omega⟩
  case round =>
    clear hC hT hhi
    obtain ⟨k, hgk, rfl, q, hC, hn, hT, hz⟩ := hrel
    by_cases hgo : k < len0 ∧ k < 40
    · obtain ⟨hg1, hg2⟩ := hgo
      rcases p0 with p0 | ⟨b1, o1, rfl, hb1, hc1⟩
      · omega
      have c0 := Plain.cell hc1 hb1 (hT.below (Nat.le_refl _) (fun _ e => e.elim)) k (by omega)
      have f0 := bounds_i64 (hc1 k (by omega)).2
      obtain ⟨y0, hy⟩ : ∃ y, z0.getD k 0 = y := ⟨_, rfl⟩
      rw [hy] at c0 f0
      have k1 : (k : Int) < len0 := by omega
      have k2 : (k : Int) < 40 := by omega
      have x1 := Int.emod_nonneg (y0.tdiv 4) (b := 100) (by omega)
      have x2 := Int.emod_lt_of_pos (y0.tdiv 4) (b := 100) (by omega)
      have hev := cevict_any hC 0 (y0.tdiv 4 % 100) (by omega)
      have hcl := cclear_any hC (y0.tdiv 4 % 100) (by omega)
      have hto := ctouch_any hC 0 (y0.tdiv 4 % 100) (by omega)
      have hv : y0 % 8 = 0 ∨ y0 % 8 = 1 ∨ (y0 % 8 ≠ 0 ∧ y0 % 8 ≠ 1) := by omega
      rcases hv with hv | hv | ⟨hv1, hv2⟩
      · go_wp2_with (first
          | (go_at_call 14; refine (within_any _ _ _ (by omega) (by omega)).mono ?_; rintro e wq ⟨rfl, rfl⟩)
          | (go_at_call 17; refine hev.mono ?_; rintro e w3 ⟨hx, hC3, t3⟩; subst hx))
        go_roundg (39 - k)
        case measure => omega
        case rel => exact ⟨k + 1, by omega, by go_num, _, hC3, by rw [CQ.evict_n]; exact hn, hT.transNew t3 (fun i h e => by omega), Nat.le_trans hz t3.size⟩
      · go_wp2_with (first
          | (go_at_call 14; refine (within_any _ _ _ (by omega) (by omega)).mono ?_; rintro e wq ⟨rfl, rfl⟩)
          | (go_at_call 16; refine hcl.mono ?_; rintro e w3 ⟨hx, hC3, t3⟩; subst hx))
        go_roundg (39 - k)
        case measure => omega
        case rel => exact ⟨k + 1, by omega, by go_num, _, hC3, by rw [CQ.clear_n]; exact hn, hT.transNew t3 (fun i h e => by omega), Nat.le_trans hz t3.size⟩
      · have g1 : (y0 % 8 == 0) = false := by simpa using hv1
        have g2 : (y0 % 8 == 1) = false := by simpa using hv2
        go_wp2_with (first
          | (go_at_call 14; refine (within_any _ _ _ (by omega) (by omega)).mono ?_; rintro e wq ⟨rfl, rfl⟩)
          | (go_at_call 10; refine hto.mono ?_; rintro e w3 ⟨hx, hC3, t3⟩; subst hx))
        go_roundg (39 - k)
        case measure => omega
        case rel => exact ⟨k + 1, by omega, by go_num, _, hC3, by rw [CQ.touch_n]; exact hn, hT.transNew t3 (fun i h e => by omega), Nat.le_trans hz t3.size⟩
    · have h1 : q.hasC 0 = true := by rw [CQ.hasC_iff]; omega
      clear p0
      have m0 : hi ≤ wr.heap.size := hz
      by_cases hl : k < len0
      have k1 : (k : Int) < len0 := by omega
      have k2 : decide ((k : Int) < 40) = false := by simp; omega
      go_upto_region 14 with fail
      rotate_left
      have k1 : decide ((k : Int) < len0) = false := by simp; omega
      go_upto_region 14 with fail
      all_goals
        clear hgo hl k1
        try clear k2
        go_wp2_with (first
          | (go_at_call 11; refine (ctags_yes hC _ h1).mono ?_; rintro e w2 ⟨cA, capA, rfl, gA, rA, tA, kA1, kA2⟩; replace hC := hC.touch tA (fun _ _ _ e => e); replace hT := hT.trans tA)
          | (go_at_call 12; refine (cshared_any hC).mono ?_; rintro e w3 ⟨cS, capS, rfl, gS, rS, tS, kS1, kS2⟩; replace hC := hC.touch tS (fun _ _ _ e => e); replace hT := hT.trans tS; replace rA := rA.touch tS id))
        obtain ⟨ok1, ok2⟩ := hC.oks
        have ok0 := ok1 (0 : Int).toNat
        have hB : rowHas (w3.alloc (.cells #[.slice (some ⟨cA, 0, none⟩) 8 capA, .int .i64 4, .int .i64 2, .slice (some ⟨cS, 0, none⟩) 32 capS, .int .i64 8, .int .i64 4] 33)) w3.heap.size 33 6 (fun i => if i = 0 then .slice (some ⟨cA, 0, none⟩) 8 capA else if i = 1 then .int .i64 4 else if i = 2 then .int .i64 2 else if i = 3 then .slice (some ⟨cS, 0, none⟩) 32 capS else if i = 4 then .int .i64 8 else .int .i64 4) :=
          rowHas_alloc w3 _ _ 6 _ (by simp) (fun i hi => by
            have : i = 0 ∨ i = 1 ∨ i = 2 ∨ i = 3 ∨ i = 4 ∨ i = 5 := by omega
            rcases this with rfl | rfl | rfl | rfl | rfl | rfl <;> rfl)
        replace rA := rA.alloc (.cells #[.slice (some ⟨cA, 0, none⟩) 8 capA, .int .i64 4, .int .i64 2, .slice (some ⟨cS, 0, none⟩) 32 capS, .int .i64 8, .int .i64 4] 33)
        replace rS := rS.alloc (.cells #[.slice (some ⟨cA, 0, none⟩) 8 capA, .int .i64 4, .int .i64 2, .slice (some ⟨cS, 0, none⟩) 32 capS, .int .i64 8, .int .i64 4] 33)
        replace hT := hT.alloc (.cells #[.slice (some ⟨cA, 0, none⟩) 8 capA, .int .i64 4, .int .i64 2, .slice (some ⟨cS, 0, none⟩) 32 capS, .int .i64 8, .int .i64 4] 33)
        clear hC ok1 tA tS gA gS h1 hn hz m0
        generalize w3.alloc (.cells #[.slice (some ⟨cA, 0, none⟩) 8 capA, .int .i64 4, .int .i64 2, .slice (some ⟨cS, 0, none⟩) 32 capS, .int .i64 8, .int .i64 4] 33) = w4 at *
        generalize w3.heap.size = B6 at *
        go_loopg [57] 2 (fun g v wr => ∃ j : Nat, g + j = 2 ∧ v = .int .i64 j ∧ rowHas wr B6 33 6 (fun i => if i = 0 then .slice (some ⟨cA, 0, none⟩) 8 capA else if i = 1 then .int .i64 4 else if i = 2 then .int .i64 2 else if i = 3 then .slice (some ⟨cS, 0, none⟩) 32 capS else if i = 4 then .int .i64 8 else .int .i64 4) ∧
          rowHas wr cA 3 8 (fun j => .int .i64 (tg (q.F (0 : Int).toNat) 2 j)) ∧ rowHas wr cS 3 32 (fun j => .int .i64 (tg q.Sh 4 j)) ∧ Touch Nil w wr)
        case atStart => exact ⟨0, by omega, rfl, hB, rA, rS, hT⟩
        case round =>
          clear hB rA rS hT
          obtain ⟨j, hj, rfl, hB, rA, rS, hT⟩ := hrel
          rcases (show j = 0 ∨ j = 1 ∨ j = 2 by omega) with rfl | rfl | rfl
          · have d0 : wr.cell? ⟨B6, 0, none⟩ = some (.slice (some ⟨cA, 0, none⟩) 8 capA) := hB.cell (i := 0) (by omega)
            have d1 : wr.cell? ⟨B6, 1, none⟩ = some (.int .i64 4) := hB.cell (i := 1) (by omega)
            have d2 : wr.cell? ⟨B6, 2, none⟩ = some (.int .i64 2) := hB.cell (i := 2) (by omega)
            go_wp2
            have hR : rowHas (wr.alloc (.cells #[.slice (some ⟨cA, 0, none⟩) 8 capA, .int .i64 4, .int .i64 2] 33)) wr.heap.size 33 3 (fun i => if i = 0 then .slice (some ⟨cA, 0, none⟩) 8 capA else if i = 1 then .int .i64 4 else .int .i64 2) :=
              rowHas_alloc wr _ _ 3 _ (by simp) (fun i hi => by
                have : i = 0 ∨ i = 1 ∨ i = 2 := by omega
                rcases this with rfl | rfl | rfl <;> rfl)
            replace hB := hB.alloc (.cells #[.slice (some ⟨cA, 0, none⟩) 8 capA, .int .i64 4, .int .i64 2] 33)
            replace rA := rA.alloc (.cells #[.slice (some ⟨cA, 0, none⟩) 8 capA, .int .i64 4, .int .i64 2] 33)
            replace rS := rS.alloc (.cells #[.slice (some ⟨cA, 0, none⟩) 8 capA, .int .i64 4, .int .i64 2] 33)
            replace hT := hT.alloc (.cells #[.slice (some ⟨cA, 0, none⟩) 8 capA, .int .i64 4, .int .i64 2] 33)
            clear d0 d1 d2
            generalize wr.alloc (.cells #[.slice (some ⟨cA, 0, none⟩) 8 capA, .int .i64 4, .int .i64 2] 33) = w5 at *
            generalize wr.heap.size = TB at *
            have d0 : w5.cell? ⟨TB, 0, none⟩ = some (.slice (some ⟨cA, 0, none⟩) 8 capA) := hR.cell (i := 0) (by omega)
            have d1 : w5.cell? ⟨TB, 1, none⟩ = some (.int .i64 4) := hR.cell (i := 1) (by omega)
            have d2 : w5.cell? ⟨TB, 2, none⟩ = some (.int .i64 2) := hR.cell (i := 2) (by omega)
            clear hR
            go_loopg [73] 8 (fun g v wz => ∃ i : Nat, g + i = 8 ∧ v = .int .i64 i ∧ ∃ m, wz = w5.drewN m)
            case atStart => exact ⟨0, by omega, rfl, 0, rfl⟩
            case round =>
              obtain ⟨i, hgi, rfl, m, rfl⟩ := hrel
              by_cases hlt : i < 8
              · have i1 : (i : Int) < 8 := by omega
                have c1 := rA.cell (i := i) hlt
                have g0 := tg_ge ok0 i
                have g1 : 0 ≤ tg (q.F 0) 2 i → tg (q.F 0) 2 i % 4 = ((i / 2 : Nat) : Int) := fun h => tg_mod ok0 h
                have g2 : 0 ≤ tg (q.F 0) 2 i → 0 < i % 2 → 0 ≤ tg (q.F 0) 2 (i - 1) := fun h h' => tg_prev ok0 (by omega) h h'
                have g3 : ∀ j, j < i → 0 ≤ tg (q.F 0) 2 i → tg (q.F 0) 2 i ≠ tg (q.F 0) 2 j := fun j hj h => tg_ne ok0 hj h
                have c2 : Hid (∀ j, j < i → w5.cell? ⟨cA, j, none⟩ = some (.int .i64 (tg (q.F 0) 2 j))) := fun j hj => rA.cell (by omega)
                simp only [Int.toNat_zero] at c1 g0
                generalize tg (q.F 0) 2 i = X at c1 g0 g1 g2 g3
                go_wp2
                go_cut [110] (fun v wx => v = .bool false ∧ ∃ m, wx = w5.drewN m)
                case first =>
                  by_cases hx : 0 ≤ X
                  · have e1 : X.tmod 4 = (i : Int) / 2 := by rw [Int.tmod_eq_emod_of_nonneg hx]; have := g1 hx; omega
                    have e2 : IntKind.i64.wrap ((i : Int) / 2) = (i : Int) / 2 := by rw [IntKind.wrap_i64]; omega
                    have e4 : decide (X < -1) = false := by simp; omega
                    by_cases hiv : 0 < i % 2
                    · have e5 := g2 hx hiv
                      have e6 := c2.out (i - 1) (by have := Nat.mod_le i 2; omega)
                      generalize tg (q.F 0) 2 (i - 1) = Y at e5 e6
                      have e7 : decide (Y < 0) = false := by simp; omega
                      have e8 : 0 < (i : Int) % 2 := by omega
                      have e9 : IntKind.i64.wrap ((i : Int) - 1) = (i : Int) - 1 := by rw [IntKind.wrap_i64]; omega
                      have e10 : 0 ≤ (i : Int) - 1 := by have := Nat.mod_le i 2; omega
                      have e11 : (i : Int) - 1 < 8 := by omega
                      have e12 : ((i : Int) - 1).toNat = i - 1 := by omega
                      go_quiet (fail)
                      go_wp2
                      go_meet
                      first | exact ⟨rfl, _, rfl⟩ | exact ⟨rfl, _, drewN2 _ _ _⟩
                    · have e8 : decide (0 < (i : Int) % 2) = false := by simp; omega
                      go_quiet (fail)
                      go_wp2
                      go_meet
                      first | exact ⟨rfl, _, rfl⟩ | exact ⟨rfl, _, drewN2 _ _ _⟩
                  · have hx1 : decide (0 ≤ X) = false := by simpa using hx
                    have hx2 : decide (X < -1) = false := by simp; omega
                    go_quiet (fail)
                    go_wp2
                    go_meet
                    first | exact ⟨rfl, _, rfl⟩ | exact ⟨rfl, _, drewN2 _ _ _⟩
                case rest =>
                obtain ⟨rfl, m2, rfl⟩ := hcut
                go_wp2
                go_loop [116] (fun v => ∃ j : Nat, j ≤ i ∧ v = .int .i64 j) (fun v => i - (intOf v).toNat)
                case atStart => exact ⟨0, by omega, rfl⟩
                case round =>
                  obtain ⟨j, hji, rfl⟩ := hrel
                  by_cases hlt2 : j < i
                  · have j1 : (j : Int) < i := by omega
                    have c3 := c2.out j hlt2
                    have c4 := g3 j hlt2
                    generalize tg (q.F 0) 2 j = Y at c3 c4
                    by_cases hx : 0 ≤ X
                    · have e1 : (X == Y) = false := by simpa using c4 hx
                      go_wp2
                      go_round
                      case rel => exact ⟨j + 1, by omega, by go_num⟩
                      case measure => simp [intOf]; omega
                    · have hx1 : decide (0 ≤ X) = false := by simpa using hx
                      go_wp2
                      go_round
                      case rel => exact ⟨j + 1, by omega, by go_num⟩
                      case measure => simp [intOf]; omega
                  · have hji2 : j = i := by omega
                    subst hji2
                    go_wp2
                    go_roundg (7 - j)
                    case measure => omega
                    case rel => exact ⟨j + 1, by omega, by go_num, m2, rfl⟩
              · have hin : i = 8 := by omega
                subst hin
                go_wp2
                go_roundg 1
                case measure => omega
                case rel => exact ⟨0 + 1, by omega, by go_num, hB, rA, rS, hT.drews _⟩
          · have d0 : wr.cell? ⟨B6, 3, none⟩ = some (.slice (some ⟨cS, 0, none⟩) 32 capS) := hB.cell (i := 3) (by omega)
            have d1 : wr.cell? ⟨B6, 4, none⟩ = some (.int .i64 8) := hB.cell (i := 4) (by omega)
            have d2 : wr.cell? ⟨B6, 5, none⟩ = some (.int .i64 4) := hB.cell (i := 5) (by omega)
            go_wp2
            have hR : rowHas (wr.alloc (.cells #[.slice (some ⟨cS, 0, none⟩) 32 capS, .int .i64 8, .int .i64 4] 33)) wr.heap.size 33 3 (fun i => if i = 0 then .slice (some ⟨cS, 0, none⟩) 32 capS else if i = 1 then .int .i64 8 else .int .i64 4) :=
              rowHas_alloc wr _ _ 3 _ (by simp) (fun i hi => by
                have : i = 0 ∨ i = 1 ∨ i = 2 := by omega
                rcases this with rfl | rfl | rfl <;> rfl)
            replace hB := hB.alloc (.cells #[.slice (some ⟨cS, 0, none⟩) 32 capS, .int .i64 8, .int .i64 4] 33)
            replace rA := rA.alloc (.cells #[.slice (some ⟨cS, 0, none⟩) 32 capS, .int .i64 8, .int .i64 4] 33)
            replace rS := rS.alloc (.cells #[.slice (some ⟨cS, 0, none⟩) 32 capS, .int .i64 8, .int .i64 4] 33)
            replace hT := hT.alloc (.cells #[.slice (some ⟨cS, 0, none⟩) 32 capS, .int .i64 8, .int .i64 4] 33)
            clear d0 d1 d2
            generalize wr.alloc (.cells #[.slice (some ⟨cS, 0, none⟩) 32 capS, .int .i64 8, .int .i64 4] 33) = w5 at *
            generalize wr.heap.size = TB at *
            have d0 : w5.cell? ⟨TB, 0, none⟩ = some (.slice (some ⟨cS, 0, none⟩) 32 capS) := hR.cell (i := 0) (by omega)
            have d1 : w5.cell? ⟨TB, 1, none⟩ = some (.int .i64 8) := hR.cell (i := 1) (by omega)
            have d2 : w5.cell? ⟨TB, 2, none⟩ = some (.int .i64 4) := hR.cell (i := 2) (by omega)
            clear hR
            go_loopg [73] 32 (fun g v wz => ∃ i : Nat, g + i = 32 ∧ v = .int .i64 i ∧ ∃ m, wz = w5.drewN m)
            case atStart => exact ⟨0, by omega, rfl, 0, rfl⟩
            case round =>
              obtain ⟨i, hgi, rfl, m, rfl⟩ := hrel
              by_cases hlt : i < 32
              · have i1 : (i : Int) < 32 := by omega
                have c1 := rS.cell (i := i) hlt
                have g0 := tg_ge ok2 i
                have g1 : 0 ≤ tg q.Sh 4 i → tg q.Sh 4 i % 8 = ((i / 4 : Nat) : Int) := fun h => tg_mod ok2 h
                have g2 : 0 ≤ tg q.Sh 4 i → 0 < i % 4 → 0 ≤ tg q.Sh 4 (i - 1) := fun h h' => tg_prev ok2 (by omega) h h'
                have g3 : ∀ j, j < i → 0 ≤ tg q.Sh 4 i → tg q.Sh 4 i ≠ tg q.Sh 4 j := fun j hj h => tg_ne ok2 hj h
                have c2 : Hid (∀ j, j < i → w5.cell? ⟨cS, j, none⟩ = some (.int .i64 (tg q.Sh 4 j))) := fun j hj => rS.cell (by omega)
                skip
                generalize tg q.Sh 4 i = X at c1 g0 g1 g2 g3
                go_wp2
                go_cut [110] (fun v wx => v = .bool false ∧ ∃ m, wx = w5.drewN m)
                case first =>
                  by_cases hx : 0 ≤ X
                  · have e1 : X.tmod 8 = (i : Int) / 4 := by rw [Int.tmod_eq_emod_of_nonneg hx]; have := g1 hx; omega
                    have e2 : IntKind.i64.wrap ((i : Int) / 4) = (i : Int) / 4 := by rw [IntKind.wrap_i64]; omega
                    have e4 : decide (X < -1) = false := by simp; omega
                    by_cases hiv : 0 < i % 4
                    · have e5 := g2 hx hiv
                      have e6 := c2.out (i - 1) (by have := Nat.mod_le i 4; omega)
                      generalize tg q.Sh 4 (i - 1) = Y at e5 e6
                      have e7 : decide (Y < 0) = false := by simp; omega
                      have e8 : 0 < (i : Int) % 4 := by omega
                      have e9 : IntKind.i64.wrap ((i : Int) - 1) = (i : Int) - 1 := by rw [IntKind.wrap_i64]; omega
                      have e10 : 0 ≤ (i : Int) - 1 := by have := Nat.mod_le i 4; omega
                      have e11 : (i : Int) - 1 < 32 := by omega
                      have e12 : ((i : Int) - 1).toNat = i - 1 := by omega
                      go_quiet (fail)
                      go_wp2
                      go_meet
                      first | exact ⟨rfl, _, rfl⟩ | exact ⟨rfl, _, drewN2 _ _ _⟩
                    · have e8 : decide (0 < (i : Int) % 4) = false := by simp; omega
                      go_quiet (fail)
                      go_wp2
                      go_meet
                      first | exact ⟨rfl, _, rfl⟩ | exact ⟨rfl, _, drewN2 _ _ _⟩
                  · have hx1 : decide (0 ≤ X) = false := by simpa using hx
                    have hx2 : decide (X < -1) = false := by simp; omega
                    go_quiet (fail)
                    go_wp2
                    go_meet
                    first | exact ⟨rfl, _, rfl⟩ | exact ⟨rfl, _, drewN2 _ _ _⟩
                case rest =>
                obtain ⟨rfl, m2, rfl⟩ := hcut
                go_wp2
                go_loop [116] (fun v => ∃ j : Nat, j ≤ i ∧ v = .int .i64 j) (fun v => i - (intOf v).toNat)
                case atStart => exact ⟨0, by omega, rfl⟩
                case round =>
                  obtain ⟨j, hji, rfl⟩ := hrel
                  by_cases hlt2 : j < i
                  · have j1 : (j : Int) < i := by omega
                    have c3 := c2.out j hlt2
                    have c4 := g3 j hlt2
                    generalize tg q.Sh 4 j = Y at c3 c4
                    by_cases hx : 0 ≤ X
                    · have e1 : (X == Y) = false := by simpa using c4 hx
                      go_wp2
                      go_round
                      case rel => exact ⟨j + 1, by omega, by go_num⟩
                      case measure => simp [intOf]; omega
                    · have hx1 : decide (0 ≤ X) = false := by simpa using hx
                      go_wp2
                      go_round
                      case rel => exact ⟨j + 1, by omega, by go_num⟩
                      case measure => simp [intOf]; omega
                  · have hji2 : j = i := by omega
                    subst hji2
                    go_wp2
                    go_roundg (31 - j)
                    case measure => omega
                    case rel => exact ⟨j + 1, by omega, by go_num, m2, rfl⟩
              · have hin : i = 32 := by omega
                subst hin
                go_wp2
                go_roundg 0
                case measure => omega
                case rel => exact ⟨1 + 1, by omega, by go_num, hB, rA, rS, hT.drews _⟩
          · go_wp2_with (go_at_call 18; refine (wakes4_any _).mono ?_; rintro e w9 ⟨rfl, hT9⟩)
            go_ret
            exact ⟨rfl, (hT.trans hT9).below (Nat.le_refl _) (fun _ e => e.elim)⟩
end Go.Proofs.Ytjfdjlinjghddaa

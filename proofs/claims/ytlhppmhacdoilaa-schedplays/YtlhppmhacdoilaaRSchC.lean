/-
  The document's scheduler: Pick.
-/
import Derived.Test.YtlhppmhacdoilaaRSchB
namespace Go.Proofs.Ytlhppmhacdoilaa
open Go.ChangeShapes Go.WideShapes Go.ChangeAt Go.RowKit

set_option maxHeartbeats 2000000 in
theorem rsPick_any {w : World} {b gO cO gL cL : Nat} {s : Sd} (h : RSdAt w b gO cO gL cL s) (gd : s.good = true) (c : Int) :
    Calls Try.prog 20 #[.pointer (some ⟨b, 0, none⟩), .int .i64 c] w fun e w' => e = .returned (.int .i64 (s.pick c)) ∧ RSdAt w' b gO cO gL cL (s.picked c) ∧ Touch (RSdB b gO gL) w w' := by
  have cc := h.oC
  have hcO := h.onR.1
  by_cases h0 : 0 ≤ c
  · by_cases h1 : c < s.c
    · have e : s.hasC c = true := (s.hasC_iff c).2 ⟨h0, h1⟩
      obtain ⟨i, rfl⟩ : ∃ i : Nat, c = i := ⟨c.toNat, by omega⟩
      have e0 : Hid (s.pick i = if s.step i = 0 then (-1 : Int) else ((s.nth i (s.step i) : Nat) : Int)) := by show _ = _; unfold Sd.pick; rw [e]; rfl
      have e1 : Hid (s.picked i = if s.step i = 0 then s else s.runs i ⟨s.nth i (s.step i), s.nth_lt _ _⟩) := by show _ = _; unfold Sd.picked; rw [e]; rfl
      have i1 : i < s.c := by omega
      have few := s.c_le
      have fz := h.onR.2.frozen i
      have c2 := h.onC i i1
      have hF := h.off i i1
      have tF := (Touch.refl (RSdB b gO gL) w).setCell (p := ⟨gO, i, none⟩) (Or.inr (Or.inl rfl)) (.int .i64 (-1))
      have hmay := fun q (hq : q < 4) => Sd.may_off gd i i1 q hq
      have hnone : Hid (s.step i = 0 → s.setR i false = s) := fun q => Sd.none_off gd i i1 q
      have hruns := fun p => s.runs_off i p
      have hA : ∀ q, (s.setR i false).A q = s.A q := fun q => s.setR_A i false q
      have hcc : (s.setR i false).c = s.c := s.setR_c i false
      have hL : ((s.setR i false).L i).1 = (s.L i).1 := by rw [s.setR_L]
      generalize (s.setR i false) = s' at *
      obtain ⟨w1, hw1⟩ : ∃ w1, Hid (w.setCell ⟨gO, i, none⟩ (.int .i64 (-1)) = w1) := ⟨_, rfl⟩
      rw [hw1.out] at hF tF
      have d4 := hF.oC
      have d5 := hF.tC
      rw [hcc] at d4 d5
      have dl := hF.laC i (by rw [hcc]; exact i1)
      rw [hL] at dl
      have hcL := hF.laR.1
      rw [hcc] at hcL
      have lF : Hid (((s.L i).1 : Int) < 4) := by show _ < _; have := (s.L i).2; omega
      have ln : Hid (∀ k, s.nth i k = ((s.L i).1 + k) % 4) := fun k => rfl
      generalize (s.L i).1 = x at dl lF ln
      have nb1 := h.neO
      have nb2 := h.neL
      have nb3 := h.ne
      clear e hL few
      have i0 : decide ((i : Int) < 0) = false := by simp
      have i2 : decide (s.c ≤ i) = false := by simp; omega
      go_enter Try.func20, Try.ntmps20
      go_upto_region 4 with fail
      rw [hw1.out]
      clear hw1 cc c2 fz h
      go_wp2_with fail
      go_loopg [5] 4 (fun gk v wr => ∃ k : Nat, gk + k = 5 ∧ 1 ≤ k ∧ v = .int .i64 k ∧ Hid (∀ j, 1 ≤ j → j < k → s.ok i j = false) ∧ w1 = wr)
      case atStart => exact ⟨1, by omega, by omega, rfl, fun j hj => by omega, rfl⟩
      case round =>
        obtain ⟨k, hgk, hk1, rfl, hno, rfl⟩ := hrel
        by_cases hk : k < 5
        · have k1 : (k : Int) ≤ 4 := by omega
          have x1 : (x : Int) < 4 := lF.out
          have em : ((x : Int) + (k : Int)) % 4 = ((s.nth i k : Nat) : Int) := by rw [ln.out k]; omega
          have q4 := s.nth_lt i k
          have q4' : ((s.nth i k : Nat) : Int) < 4 := by omega
          have dA := hF.aC (s.nth i k) q4
          rw [hA] at dA
          have hW := rsWhere_any hF ((s.nth i k : Nat) : Int)
          have hm := hmay (s.nth i k) q4
          have eo : s.may (s.nth i k) (i : Int) = s.ok i k := rfl
          rw [eo] at hm
          clear eo
          have hR := hF.runs i (by rw [hcc]; exact i1) ⟨s.nth i k, q4⟩
          rw [hruns] at hR
          have hstep : Hid (s.ok i k = true → s.pick i = ((s.nth i k : Nat) : Int) ∧ s.picked i = s.runs i ⟨s.nth i k, q4⟩) := fun ho => by
            have es : s.step i = k := s.step_at i k hk1 hk hno.out ho
            have e0' := e0.out
            have e1' := e1.out
            rw [es, if_neg (by omega)] at e0'
            rw [if_neg (by omega)] at e1'
            refine ⟨e0', ?_⟩
            rw [e1']
            congr 1
            exact Fin.ext (by show s.nth i (s.step i) = s.nth i k; rw [es])
          have hn2 : s.ok i k = false → Hid (∀ j, 1 ≤ j → j < k + 1 → s.ok i j = false) := fun ho j j1 hj => by
            by_cases e2 : j = k
            · subst e2; exact ho
            · exact hno.out j j1 (by omega)
          clear hmay hruns hno
          generalize s.ok i k = o at *
          generalize s.nth i k = q at *
          generalize s'.wh (q : Int) = y at *
          cases ha : s.A q
          · rw [ha] at dA
            rw [ha, Bool.false_and] at hm
            have hn2 := hn2 hm
            clear hm ha
            go_wp2_with fail
            go_roundg (4 - k)
            case measure => omega
            case rel => exact ⟨k + 1, by omega, by omega, by go_num, hn2, rfl⟩
          · rw [ha] at dA
            rw [ha, Bool.true_and] at hm
            cases hy : decide (y < 0)
            · rw [hy] at hm
              have hn2 := hn2 hm
              clear hm ha
              go_wp2_with fail
              with_reducible refine hW.mono ?_
              rintro e wq ⟨rfl, rfl⟩
              go_wp2_with fail
              go_roundg (4 - k)
              case measure => omega
              case rel => exact ⟨k + 1, by omega, by omega, by go_num, hn2, rfl⟩
            · rw [hy] at hm
              have hst := hstep.out hm
              have f0 : Hid _ := hst.1
              have f1 : Hid _ := hst.2
              have tR := (tF.setCell (p := ⟨gO, i, none⟩) (Or.inr (Or.inl rfl)) (.int .i64 q)).setCell (p := ⟨gL, i, none⟩) (Or.inr (Or.inr rfl)) (.int .i64 q)
              have fz1 := hF.onR.2.frozen i
              have fz2 := hF.laR.2.frozen i
              have c2 := hF.onC i (by rw [hcc]; exact i1)
              clear hm ha hst hstep hn2
              go_wp2_with fail
              with_reducible refine hW.mono ?_
              rintro e wq ⟨rfl, rfl⟩
              go_upto_region 9 with fail
              have tW := (Touch.refl (· = gO) w1).setCell (p := ⟨gO, i, none⟩) rfl (.int .i64 q)
              have tW2 := (Touch.refl (· = gL) (w1.setCell ⟨gO, i, none⟩ (.int .i64 q))).setCell (p := ⟨gL, i, none⟩) rfl (.int .i64 q)
              have row1 := tW.row hF.row nb1
              have row2 := tW2.row row1 nb2
              have a4 : (w1.setCell ⟨gO, i, none⟩ (.int .i64 q)).cell? ⟨b, 4, none⟩ = some (.slice (some ⟨gO, 0, none⟩) s.c cO) := by rw [row1.cell (i := 4) (by omega)]; unfold Sd.rcell; rw [hcc]; rfl
              have a5 : (w1.setCell ⟨gO, i, none⟩ (.int .i64 q)).cell? ⟨b, 5, none⟩ = some (.slice (some ⟨gL, 0, none⟩) s.c cL) := by rw [row1.cell (i := 5) (by omega)]; unfold Sd.rcell; rw [hcc]; rfl
              have b4 : ((w1.setCell ⟨gO, i, none⟩ (.int .i64 q)).setCell ⟨gL, i, none⟩ (.int .i64 q)).cell? ⟨b, 4, none⟩ = some (.slice (some ⟨gO, 0, none⟩) s.c cO) := by rw [row2.cell (i := 4) (by omega)]; unfold Sd.rcell; rw [hcc]; rfl
              have b5 : ((w1.setCell ⟨gO, i, none⟩ (.int .i64 q)).setCell ⟨gL, i, none⟩ (.int .i64 q)).cell? ⟨b, 5, none⟩ = some (.slice (some ⟨gL, 0, none⟩) s.c cL) := by rw [row2.cell (i := 5) (by omega)]; unfold Sd.rcell; rw [hcc]; rfl
              clear row1 row2 tW tW2
              go_region_held3 (fun wx => wx.cell? ⟨b, 4, none⟩ = some (.slice (some ⟨gO, 0, none⟩) s.c cO) ∧ wx.cell? ⟨b, 5, none⟩ = some (.slice (some ⟨gL, 0, none⟩) s.c cL)) (first | exact ⟨d4, d5⟩ | exact ⟨a4, a5⟩ | exact ⟨b4, b5⟩) (fail)
              all_goals
                go_wp2_with fail
                go_ret
                exact ⟨ret_int f0.out.symm, by rw [f1.out]; exact hR.nil ((Touch.refl Nil _).drew), tR.drew⟩
        · have h5 : k = 5 := by omega
          subst h5
          have es : s.step i = 0 := s.step_no i hno.out
          have e0' := e0.out
          have e1' := e1.out
          rw [if_pos es] at e0' e1'
          have f0 : Hid _ := e0'
          have f1 : Hid (s.picked i = s') := by show _ = _; rw [e1']; exact (hnone.out es).symm
          clear e0 e1 e0' e1' es
          go_wp2_with fail
          go_ret
          exact ⟨ret_int f0.out.symm, by rw [f1.out]; exact hF, tF⟩
    · have h2 : (s.c : Int) ≤ c := by omega
      have e : s.hasC c = false := by rw [Bool.eq_false_iff, Ne, Sd.hasC_iff]; omega
      have e0 : s.pick c = -1 := by unfold Sd.pick; rw [e]; rfl
      have e1 : s.picked c = s := by unfold Sd.picked; rw [e]; rfl
      rw [e0, e1]
      go_enter Try.func20, Try.ntmps20
      go_wp2_with fail
      go_ret
      exact ⟨rfl, h, Touch.refl _ _⟩
  · rw [Sd.pick_out s c (by omega), Sd.picked_out s c (by omega)]
    go_enter Try.func20, Try.ntmps20
    go_wp2_with fail
    go_ret
    exact ⟨rfl, h, Touch.refl _ _⟩
end Go.Proofs.Ytlhppmhacdoilaa

/-
  Package sched: On, Wake, End, Pick.
-/
import Derived.Test.YtlhppmhacdoilaaSchA
namespace Go.Proofs.Ytlhppmhacdoilaa
open Go.ChangeShapes Go.WideShapes Go.ChangeAt Go.RowKit

set_option maxHeartbeats 400000 in
theorem sdOn_any {w : World} {b g : Nat} {s : Sd} (h : SdAt w b g s) (c : Int) :
    Calls Try.prog 12 #[.pointer (some ⟨b, 0, none⟩), .int .i64 c] w fun e w' => e = .returned (.int .i64 (s.on c)) ∧ w = w' := by
  have hH := sdHas_any h c
  cases e : s.hasC c
  · have e0 : s.on c = -1 := by unfold Sd.on; rw [e]; rfl
    rw [e] at hH
    rw [e0]
    go_enter Try.func12, Try.ntmps12
    go_wp2_with fail
    with_reducible refine hH.mono ?_
    rintro e wq ⟨rfl, rfl⟩
    go_wp2_with fail
    go_ret
    exact ⟨rfl, rfl⟩
  · have e0 : s.on c = if s.R c.toNat = true then ((s.L c.toNat).1 : Int) else -1 := by unfold Sd.on; rw [e]; rfl
    rw [e] at hH
    obtain ⟨c0, c1⟩ := (s.hasC_iff c).1 e
    obtain ⟨i, rfl⟩ : ∃ i : Nat, c = i := ⟨c.toNat, by omega⟩
    rw [Int.toNat_natCast] at e0
    rw [e0]
    have cc := h.sC
    have d1 := h.lC i (by omega)
    have d2 := h.rC i (by omega)
    generalize ((s.L i).1 : Int) = x at *
    generalize s.R i = y at *
    clear e0 e
    cases y
    · go_enter Try.func12, Try.ntmps12
      go_wp2_with fail
      with_reducible refine hH.mono ?_
      rintro e wq ⟨rfl, rfl⟩
      go_wp2_with fail
      go_ret
      exact ⟨rfl, rfl⟩
    · go_enter Try.func12, Try.ntmps12
      go_wp2_with fail
      with_reducible refine hH.mono ?_
      rintro e wq ⟨rfl, rfl⟩
      go_wp2_with fail
      go_ret
      exact ⟨rfl, rfl⟩
set_option maxHeartbeats 400000 in
theorem sdWake_any {w : World} {b g : Nat} {s : Sd} (h : SdAt w b g s) (p : Int) :
    Calls Try.prog 8 #[.pointer (some ⟨b, 0, none⟩), .int .i64 p] w fun e w' => e = .returned (.bool (s.wakes p)) ∧ SdAt w' b g (s.wake p) ∧ Touch (SdB b g) w w' := by
  have hP := sdIs_any p w
  cases e : Sd.isP p
  · have e0 : s.wakes p = false := by unfold Sd.wakes; rw [e]; rfl
    have e1 : s.wake p = s := by unfold Sd.wake; rw [e0]; rfl
    rw [e] at hP
    rw [e0, e1]
    go_enter Try.func8, Try.ntmps8
    go_wp2_with fail
    with_reducible refine hP.mono ?_
    rintro e wq ⟨rfl, rfl⟩
    go_wp2_with fail
    go_ret
    exact ⟨rfl, h, Touch.refl _ _⟩
  · obtain ⟨p0, p1⟩ := (Sd.isP_iff p).1 e
    obtain ⟨i, rfl⟩ : ∃ i : Nat, p = i := ⟨p.toNat, by omega⟩
    have e0 : s.wakes i = !s.A i := by unfold Sd.wakes; rw [e]; rfl
    rw [e] at hP
    have cc := h.aC i (by omega)
    cases m : s.A i
    · rw [m] at cc e0
      have e1 : s.wake i = s.setA i true := by unfold Sd.wake; rw [e0]; rfl
      rw [e0, e1]
      have fz := h.fzB i
      have hN := h.setA i (by omega) true
      have tN := (Touch.refl (SdB b g) w).setCell (p := ⟨b, i, none⟩) (Or.inl rfl) (.bool true)
      clear e0 e1
      go_enter Try.func8, Try.ntmps8
      go_wp2_with fail
      with_reducible refine hP.mono ?_
      rintro e wq ⟨rfl, rfl⟩
      go_wp2_with fail
      go_ret
      exact ⟨rfl, hN, tN⟩
    · rw [m] at cc e0
      have e1 : s.wake i = s := by unfold Sd.wake; rw [e0]; rfl
      rw [e0, e1]
      clear e0 e1
      go_enter Try.func8, Try.ntmps8
      go_wp2_with fail
      with_reducible refine hP.mono ?_
      rintro e wq ⟨rfl, rfl⟩
      go_wp2_with fail
      go_ret
      exact ⟨rfl, h, Touch.refl _ _⟩
set_option maxHeartbeats 400000 in
theorem sdEnd_any {w : World} {b g : Nat} {s : Sd} (h : SdAt w b g s) (p : Int) :
    Calls Try.prog 11 #[.pointer (some ⟨b, 0, none⟩), .int .i64 p] w fun e w' => e = .returned (.bool (s.lives p)) ∧ SdAt w' b g (s.fin p) ∧ Touch (SdB b g) w w' := by
  have hP := sdIs_any p w
  cases e : Sd.isP p
  · have e0 : s.lives p = false := by unfold Sd.lives; rw [e]; rfl
    have e1 : s.fin p = s := by unfold Sd.fin; rw [e0]; rfl
    rw [e] at hP
    rw [e0, e1]
    go_enter Try.func11, Try.ntmps11
    go_wp2_with fail
    with_reducible refine hP.mono ?_
    rintro e wq ⟨rfl, rfl⟩
    go_wp2_with fail
    go_ret
    exact ⟨rfl, h, Touch.refl _ _⟩
  · obtain ⟨p0, p1⟩ := (Sd.isP_iff p).1 e
    obtain ⟨i, rfl⟩ : ∃ i : Nat, p = i := ⟨p.toNat, by omega⟩
    have e0 : s.lives i = s.A i := by unfold Sd.lives; rw [e]; rfl
    rw [e] at hP
    have cc := h.aC i (by omega)
    cases m : s.A i
    · rw [m] at cc e0
      have e1 : s.fin i = s := by unfold Sd.fin; rw [e0]; rfl
      rw [e0, e1]
      clear e0 e1
      go_enter Try.func11, Try.ntmps11
      go_wp2_with fail
      with_reducible refine hP.mono ?_
      rintro e wq ⟨rfl, rfl⟩
      go_wp2_with fail
      go_ret
      exact ⟨rfl, h, Touch.refl _ _⟩
    · rw [m] at cc e0
      have e1 : s.fin i = (s.setA i false).off i := by unfold Sd.fin; rw [e0]; rfl
      rw [e0, e1]
      have fz := h.fzB i
      have hN := h.setA i (by omega) false
      have tN := (Touch.refl (SdB b g) w).setCell (p := ⟨b, i, none⟩) (Or.inl rfl) (.bool false)
      have hW := sdWhere_any hN (i : Int)
      have hor : Hid _ := (s.setA i false).wh_or i
      have ho : Hid ((s.setA i false).off i = if (s.setA i false).wh i = -1 then (s.setA i false) else (s.setA i false).setR ((s.setA i false).wh i).toNat false) := rfl
      generalize (s.setA i false) = s' at *
      obtain ⟨w1, hw1⟩ : ∃ w1, Hid (w.setCell ⟨b, i, none⟩ (.bool false) = w1) := ⟨_, rfl⟩
      rw [hw1.out] at hN tN hW
      clear e0 e1 h
      go_enter Try.func11, Try.ntmps11
      go_wp2_with fail
      with_reducible refine hP.mono ?_
      rintro e wq ⟨rfl, rfl⟩
      go_wp2_with fail
      rw [hw1.out]
      with_reducible refine hW.mono ?_
      rintro e wq ⟨rfl, rfl⟩
      rcases hor.out with ⟨a, _⟩ | ⟨j, j1, j2, _⟩
      · rw [a] at ho ⊢
        have ho' : Hid (s'.off i = s') := by show _ = _; rw [ho.out, if_pos rfl]
        clear hw1 hor ho a
        go_wp2_with fail
        go_ret
        exact ⟨rfl, by rw [ho'.out]; exact hN, tN⟩
      · rw [j2] at ho ⊢
        have jn : ((j : Int) != -1) = true := by simp
        have ho' : Hid (s'.off i = s'.setR j false) := by show _ = _; rw [ho.out, if_neg (by omega), Int.toNat_natCast]
        have sc := hN.sC
        have fzg := hN.fzG (j * 2 + 1)
        have rc := hN.rC j j1
        have j3 : (j : Int) < s'.c := by omega
        have hM := hN.setR j j1 false
        have tM := tN.setCell (p := ⟨g, j * 2 + 1, none⟩) (Or.inr rfl) (.bool false)
        clear hw1 hor ho j2 hW cc
        go_wp2_with fail
        go_ret
        exact ⟨rfl, by rw [ho'.out]; exact hM, tM⟩
set_option maxHeartbeats 1000000 in
theorem sdPick_any {w : World} {b g : Nat} {s : Sd} (h : SdAt w b g s) (c : Int) :
    Calls Try.prog 9 #[.pointer (some ⟨b, 0, none⟩), .int .i64 c] w fun e w' => e = .returned (.int .i64 (s.pick c)) ∧ SdAt w' b g (s.picked c) ∧ Touch (SdB b g) w w' := by
  have hH := sdHas_any h c
  cases e : s.hasC c
  · have e0 : s.pick c = -1 := by unfold Sd.pick; rw [e]; rfl
    have e1 : s.picked c = s := by unfold Sd.picked; rw [e]; rfl
    rw [e] at hH
    rw [e0, e1]
    go_enter Try.func9, Try.ntmps9
    go_wp2_with fail
    with_reducible refine hH.mono ?_
    rintro e wq ⟨rfl, rfl⟩
    go_wp2_with fail
    go_ret
    exact ⟨rfl, h, Touch.refl _ _⟩
  · rw [e] at hH
    obtain ⟨c0, c1⟩ := (s.hasC_iff c).1 e
    obtain ⟨i, rfl⟩ : ∃ i : Nat, c = i := ⟨c.toNat, by omega⟩
    have e0 : Hid (s.pick i = if s.step i = 0 then (-1 : Int) else ((s.nth i (s.step i) : Nat) : Int)) := by show _ = _; unfold Sd.pick; rw [e]; rfl
    have e1 : Hid (s.picked i = if s.step i = 0 then s else s.runs i ⟨s.nth i (s.step i), s.nth_lt _ _⟩) := by show _ = _; unfold Sd.picked; rw [e]; rfl
    have cc := h.sC
    have lc := h.lC i (by omega)
    have lF : Hid (((s.L i).1 : Int) < 4) := by show _ < _; have := (s.L i).2; omega
    have ln : Hid (∀ k, s.nth i k = ((s.L i).1 + k) % 4) := fun k => rfl
    generalize (s.L i).1 = x at lc lF ln
    clear e
    go_enter Try.func9, Try.ntmps9
    go_wp2_with fail
    with_reducible refine hH.mono ?_
    rintro e wq ⟨rfl, rfl⟩
    go_wp2_with fail
    go_loopg [5] 4 (fun gk v wr => ∃ k : Nat, gk + k = 5 ∧ 1 ≤ k ∧ v = .int .i64 k ∧ Hid (∀ j, 1 ≤ j → j < k → s.ok i j = false) ∧ w = wr)
    case atStart => exact ⟨1, by omega, by omega, rfl, fun j hj => by omega, rfl⟩
    case round =>
      obtain ⟨k, hgk, hk1, rfl, hno, rfl⟩ := hrel
      by_cases hk : k < 5
      · have k1 : (k : Int) ≤ 4 := by omega
        have x1 : (x : Int) < 4 := lF.out
        have em : Hid (((x : Int) + (k : Int)) % 4 = ((s.nth i k : Nat) : Int)) := by
          show _ = _
          rw [ln.out k]; omega
        have hM := sdMay_any h (s.nth i k) (s.nth_lt i k) (i : Int)
        have eo : s.may (s.nth i k) (i : Int) = s.ok i k := rfl
        rw [eo] at hM
        clear eo
        cases ho : s.ok i k
        · have hn2 : Hid (∀ j, 1 ≤ j → j < k + 1 → s.ok i j = false) := fun j j1 hj => by
            by_cases e2 : j = k
            · subst e2; exact ho
            · exact hno.out j j1 (by omega)
          rw [ho] at hM
          go_wp2_with fail
          rw [em.out]
          with_reducible refine hM.mono ?_
          rintro e wq ⟨rfl, rfl⟩
          go_wp2_with fail
          go_roundg (4 - k)
          case measure => omega
          case rel => exact ⟨k + 1, by omega, by omega, by go_num, hn2, rfl⟩
        · have es : s.step i = k := s.step_at i k hk1 hk hno.out ho
          have e0' := e0.out
          have e1' := e1.out
          rw [es, if_neg (by omega)] at e0'
          rw [if_neg (by omega)] at e1'
          have f0 : Hid (s.pick i = (s.nth i k : Nat)) := e0'
          have f1 : Hid (s.picked i = s.runs i ⟨s.nth i k, s.nth_lt i k⟩) := by
            show _ = _
            rw [e1']
            congr 1
            exact Fin.ext (by show s.nth i (s.step i) = s.nth i k; rw [es])
          rw [ho] at hM
          clear e0 e1 e0' e1' es
          have fz1 := h.fzG (i * 2)
          have fz2 := h.fzG (i * 2 + 1)
          have rc := h.rC i (by omega)
          have hL := h.setL i (by omega) ⟨s.nth i k, s.nth_lt i k⟩
          have hR := hL.setR i (by rw [s.setL_c]; omega) true
          have tR := ((Touch.refl (SdB b g) w).setCell (p := ⟨g, i * 2, none⟩) (Or.inr rfl) (.int .i64 (s.nth i k))).setCell (p := ⟨g, i * 2 + 1, none⟩) (Or.inr rfl) (.bool true)
          clear hL
          go_wp2_with fail
          rw [em.out]
          with_reducible refine hM.mono ?_
          rintro e wq ⟨rfl, rfl⟩
          go_wp2_with fail
          go_ret
          exact ⟨ret_int f0.out.symm, by rw [f1.out]; exact hR, tR⟩
      · have h5 : k = 5 := by omega
        subst h5
        have es : s.step i = 0 := s.step_no i hno.out
        have e0' := e0.out
        have e1' := e1.out
        rw [if_pos es] at e0' e1'
        have f0 : Hid _ := e0'
        have f1 : Hid _ := e1'
        clear e0 e1 e0' e1' es
        go_wp2_with fail
        go_ret
        exact ⟨ret_int f0.out.symm, by rw [f1.out]; exact h, Touch.refl _ _⟩
end Go.Proofs.Ytlhppmhacdoilaa

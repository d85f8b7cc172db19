/-
  The document's scheduler: Where, Cpu, Wake, End, Pick.
-/
import Derived.Test.YtlhppmhacdoilaaRSchA
namespace Go.Proofs.Ytlhppmhacdoilaa
open Go.ChangeShapes Go.WideShapes Go.ChangeAt Go.RowKit

theorem rsFine_any (p : Int) (w : World) :
    Calls Try.prog 26 #[.int .i64 p] w fun e w' => e = .returned (.bool (Sd.isP p)) ∧ w = w' := by
  rcases sdP p with ⟨e, h, k⟩ | ⟨e, h⟩ | ⟨e, h, k⟩ <;> rw [e] <;>
  · go_enter Try.func26, Try.ntmps26
    go_wp2
    go_ret
    exact ⟨ret_bool (by simp; try omega), rfl⟩
set_option maxHeartbeats 400000 in
theorem rsWhere_any {w : World} {b gO cO gL cL : Nat} {s : Sd} (h : RSdAt w b gO cO gL cL s) (p : Int) :
    Calls Try.prog 21 #[.pointer (some ⟨b, 0, none⟩), .int .i64 p] w fun e w' => e = .returned (.int .i64 (s.wh p)) ∧ w = w' := by
  have cc := h.oC
  have H : Hid _ := s.wh_or p
  have hcO := h.onR.1
  go_enter Try.func21, Try.ntmps21
  go_wp2_with fail
  go_loopg [12] s.c (fun g i wr => ∃ k : Nat, g + k = s.c ∧ i = .int .i64 k ∧ Hid (∀ j, j < k → s.hit j p = false) ∧ w = wr)
  case atStart => exact ⟨0, by omega, rfl, fun j hj => by omega, rfl⟩
  case round =>
    obtain ⟨k, hgk, rfl, hno, rfl⟩ := hrel
    have few := s.c_le
    by_cases hk : k < s.c
    · have k1 : (k : Int) < s.c := by omega
      have c1 := h.onC k hk
      have e := s.on_hit k hk p
      generalize s.on (k : Int) = x at *
      have no : s.hit k p = false → Hid (∀ j, j < k + 1 → s.hit j p = false) := fun hh j hj => by
        by_cases e2 : j = k
        · subst e2; exact hh
        · exact hno.out j (by omega)
      have yes : s.hit k p = true → Hid (s.wh p = (k : Int)) := fun hh => by
        show _ = _
        rcases H.out with ⟨_, a⟩ | ⟨i, i1, i2, i3, i4⟩
        · rw [a k hk] at hh; cases hh
        · by_cases q : i < k
          · rw [hno.out i q] at i3; cases i3
          · by_cases q2 : k < i
            · rw [i4 k q2] at hh; cases hh
            · rw [i2]; omega
      rw [← e] at no yes
      clear e
      cases h1 : (x == p)
      · rw [h1, Bool.false_and] at no
        have hn2 := no rfl
        clear no yes
        go_wp2_with fail
        go_roundg (s.c - (k + 1))
        case measure => omega
        case rel => exact ⟨k + 1, by omega, by go_num, hn2, rfl⟩
      · rw [h1, Bool.true_and] at no yes
        cases h2 : decide (0 ≤ p)
        · have hn2 := no h2
          clear no yes
          go_wp2_with fail
          go_roundg (s.c - (k + 1))
          case measure => omega
          case rel => exact ⟨k + 1, by omega, by go_num, hn2, rfl⟩
        · have hw := yes h2
          clear no yes
          go_wp2_with fail
          go_ret
          exact ⟨ret_int hw.out.symm, rfl⟩
    · have h4 : k = s.c := by omega
      have hw : Hid (s.wh p = -1) := by
        show _ = _
        rcases H.out with ⟨a, _⟩ | ⟨i, i1, i2, i3, i4⟩
        · exact a
        · rw [hno.out i (by omega)] at i3; cases i3
      subst h4
      go_wp2_with fail
      go_ret
      exact ⟨ret_int hw.out.symm, rfl⟩
set_option maxHeartbeats 400000 in
theorem rsCpu_any {w : World} {b gO cO gL cL : Nat} {s : Sd} (h : RSdAt w b gO cO gL cL s) (c : Int) :
    Calls Try.prog 22 #[.pointer (some ⟨b, 0, none⟩), .int .i64 c] w fun e w' => e = .returned (.int .i64 (s.on c)) ∧ w = w' := by
  have cc := h.oC
  have hcO := h.onR.1
  by_cases h0 : 0 ≤ c
  · by_cases h1 : c < s.c
    · obtain ⟨i, rfl⟩ : ∃ i : Nat, c = i := ⟨c.toNat, by omega⟩
      have d1 := h.onC i (by omega)
      generalize s.on (i : Int) = x at *
      go_enter Try.func22, Try.ntmps22
      go_wp2_with fail
      go_ret
      exact ⟨rfl, rfl⟩
    · have e0 : s.on c = -1 := by
        have e : s.hasC c = false := by rw [Bool.eq_false_iff, Ne, Sd.hasC_iff]; omega
        unfold Sd.on; rw [e]; rfl
      rw [e0]
      have h2 : (s.c : Int) ≤ c := by omega
      go_enter Try.func22, Try.ntmps22
      go_wp2_with fail
      go_ret
      exact ⟨rfl, rfl⟩
  · rw [Sd.on_out s c (by omega)]
    go_enter Try.func22, Try.ntmps22
    go_wp2_with fail
    go_ret
    exact ⟨rfl, rfl⟩
set_option maxHeartbeats 400000 in
theorem rsWake_any {w : World} {b gO cO gL cL : Nat} {s : Sd} (h : RSdAt w b gO cO gL cL s) (p : Int) :
    Calls Try.prog 18 #[.pointer (some ⟨b, 0, none⟩), .int .i64 p] w fun e w' => e = .returned (.bool (s.wakes p)) ∧ RSdAt w' b gO cO gL cL (s.wake p) ∧ Touch (RSdB b gO gL) w w' := by
  have hP := rsFine_any p w
  cases e : Sd.isP p
  · have e0 : s.wakes p = false := by unfold Sd.wakes; rw [e]; rfl
    have e1 : s.wake p = s := by unfold Sd.wake; rw [e0]; rfl
    rw [e] at hP
    rw [e0, e1]
    go_enter Try.func18, Try.ntmps18
    go_wp2_with fail
    with_reducible refine hP.mono ?_
    rintro e wq ⟨rfl, rfl⟩
    go_wp2_with fail
    go_ret
    exact ⟨rfl, h, Touch.refl _ _⟩
  · obtain ⟨p0, p1⟩ := (Sd.isP_iff p).1 e
    obtain ⟨i, rfl⟩ : ∃ i : Nat, p = i := ⟨p.toNat, by omega⟩
    have e0 : s.wakes i = !s.A i := by unfold Sd.wakes; rw [e]; rfl
    rw [e] at hP
    have cc := h.aC i (by omega)
    cases m : s.A i
    · rw [m] at cc e0
      have e1 : s.wake i = s.setA i true := by unfold Sd.wake; rw [e0]; rfl
      rw [e0, e1]
      have fz := h.row.frozen i
      have hN := h.setA i (by omega) true
      have tN := (Touch.refl (RSdB b gO gL) w).setCell (p := ⟨b, i, none⟩) (Or.inl rfl) (.bool true)
      clear e0 e1
      go_enter Try.func18, Try.ntmps18
      go_wp2_with fail
      with_reducible refine hP.mono ?_
      rintro e wq ⟨rfl, rfl⟩
      go_wp2_with fail
      go_ret
      exact ⟨rfl, hN, tN⟩
    · rw [m] at cc e0
      have e1 : s.wake i = s := by unfold Sd.wake; rw [e0]; rfl
      rw [e0, e1]
      clear e0 e1
      go_enter Try.func18, Try.ntmps18
      go_wp2_with fail
      with_reducible refine hP.mono ?_
      rintro e wq ⟨rfl, rfl⟩
      go_wp2_with fail
      go_ret
      exact ⟨rfl, h, Touch.refl _ _⟩
theorem Sd.offTo_hit (s : Sd) (p : Int) : ∀ k, (s.offTo p k).c = s.c ∧ (∀ i, k ≤ i → i < 2 → (s.offTo p k).hit i p = s.hit i p)
  | 0 => ⟨rfl, fun _ _ _ => rfl⟩
  | k + 1 => by
    obtain ⟨e1, e2⟩ := s.offTo_hit p k
    unfold Sd.offTo
    split
    · refine ⟨by rw [Sd.setR_c, e1], fun i hi h2 => ?_⟩
      rw [← e2 i (by omega) h2]
      unfold Sd.hit
      rw [Sd.setR_L, Sd.setR_R _ _ _ (by omega) _ h2, if_neg (by omega)]
    · exact ⟨e1, fun i hi h2 => e2 i (by omega) h2⟩
set_option maxHeartbeats 1000000 in
theorem rsEnd_any {w : World} {b gO cO gL cL : Nat} {s : Sd} (h : RSdAt w b gO cO gL cL s) (gd : s.good = true) (p : Int) :
    Calls Try.prog 19 #[.pointer (some ⟨b, 0, none⟩), .int .i64 p] w fun e w' => e = .returned (.bool (s.lives p)) ∧ RSdAt w' b gO cO gL cL (s.fin p) ∧ Touch (RSdB b gO gL) w w' := by
  have hP := rsFine_any p w
  cases e : Sd.isP p
  · have e0 : s.lives p = false := by unfold Sd.lives; rw [e]; rfl
    have e1 : s.fin p = s := by unfold Sd.fin; rw [e0]; rfl
    rw [e] at hP
    rw [e0, e1]
    go_enter Try.func19, Try.ntmps19
    go_wp2_with fail
    with_reducible refine hP.mono ?_
    rintro e wq ⟨rfl, rfl⟩
    go_wp2_with fail
    go_ret
    exact ⟨rfl, h, Touch.refl _ _⟩
  · obtain ⟨p0, p1⟩ := (Sd.isP_iff p).1 e
    obtain ⟨i, rfl⟩ : ∃ i : Nat, p = i := ⟨p.toNat, by omega⟩
    have e0 : s.lives i = s.A i := by unfold Sd.lives; rw [e]; rfl
    rw [e] at hP
    have cc := h.aC i (by omega)
    cases m : s.A i
    · rw [m] at cc e0
      have e1 : s.fin i = s := by unfold Sd.fin; rw [e0]; rfl
      rw [e0, e1]
      clear e0 e1
      go_enter Try.func19, Try.ntmps19
      go_wp2_with fail
      with_reducible refine hP.mono ?_
      rintro e wq ⟨rfl, rfl⟩
      go_wp2_with fail
      go_ret
      exact ⟨rfl, h, Touch.refl _ _⟩
    · rw [m] at cc e0
      have e1 : s.fin i = (s.setA i false).off i := by unfold Sd.fin; rw [e0]; rfl
      rw [e0, e1, ← Sd.offTo_off gd i (by omega)]
      have fz := h.row.frozen i
      have hN := h.setA i (by omega) false
      have tN := (Touch.refl (RSdB b gO gL) w).setCell (p := ⟨b, i, none⟩) (Or.inl rfl) (.bool false)
      have ec : s.c = (s.setA i false).c := (s.setA_c i false).symm
      rw [ec]
      generalize (s.setA i false) = s' at *
      obtain ⟨w1, hw1⟩ : ∃ w1, Hid (w.setCell ⟨b, i, none⟩ (.bool false) = w1) := ⟨_, rfl⟩
      rw [hw1.out] at hN tN
      have hN : RSdAt w1 b gO cO gL cL (s'.offTo (i : Int) 0) := hN
      clear e0 e1 h ec
      have hcO := hN.onR.1
      have c4 := hN.oC
      have few := s'.c_le
      rw [show (s'.offTo (i : Int) 0).c = s'.c from rfl] at hcO c4
      go_enter Try.func19, Try.ntmps19
      go_wp2_with fail
      with_reducible refine hP.mono ?_
      rintro e wq ⟨rfl, rfl⟩
      go_upto_region 4 with fail
      rw [hw1.out]
      clear hw1 cc
      go_wp2_with fail
      clear c4
      go_loopg [28] s'.c (fun g v wr => ∃ k : Nat, g + k = s'.c ∧ v = .int .i64 k ∧ RSdAt wr b gO cO gL cL (s'.offTo (i : Int) k) ∧ Aside (Touch (RSdB b gO gL) w wr))
      case atStart => exact ⟨0, by omega, rfl, hN, tN⟩
      case round =>
        clear hN tN
        obtain ⟨k, hgk, rfl, hK, tK⟩ := hrel
        by_cases hk : k < s'.c
        · have k1 : (k : Int) < s'.c := by omega
          obtain ⟨ec, eh⟩ := s'.offTo_hit (i : Int) k
          have c4 := hK.oC
          have c5 := hK.onC k (by rw [ec]; exact hk)
          have hh := (s'.offTo (i : Int) k).on_hit k (by rw [ec]; exact hk) (i : Int)
          rw [eh k (Nat.le_refl _) (by omega), decide_eq_true (show (0 : Int) ≤ (i : Int) by omega), Bool.and_true] at hh
          have hnx : s'.offTo (i : Int) (k + 1) = if s'.hit k (i : Int) = true then (s'.offTo (i : Int) k).setR k false else s'.offTo (i : Int) k := rfl
          rw [ec] at c4
          have fz := hK.onR.2.frozen k
          have hF := hK.off k (by rw [ec]; exact hk)
          have tF := tK.out.setCell (p := ⟨gO, k, none⟩) (Or.inr (Or.inl rfl)) (.int .i64 (-1))
          generalize (s'.offTo (i : Int) k).on (k : Int) = x at *
          cases hq : s'.hit k (i : Int)
          · rw [hq] at hh hnx
            have hn2 : Hid (s'.offTo (i : Int) (k + 1) = s'.offTo (i : Int) k) := hnx
            clear hnx hF tF hq ec eh
            go_wp2_with fail
            go_roundg (s'.c - (k + 1))
            case measure => omega
            case rel => exact ⟨k + 1, by omega, by go_num, by rw [hn2.out]; exact hK, tK⟩
          · rw [hq] at hh hnx
            have hn2 : Hid (s'.offTo (i : Int) (k + 1) = (s'.offTo (i : Int) k).setR k false) := hnx
            clear hnx hq ec eh
            go_wp2_with fail
            go_roundg (s'.c - (k + 1))
            case measure => omega
            case rel => exact ⟨k + 1, by omega, by go_num, by rw [hn2.out]; exact hF, tF⟩
        · have h4 : k = s'.c := by omega
          subst h4
          go_wp2_with fail
          go_ret
          exact ⟨rfl, hK, tK.out⟩
end Go.Proofs.Ytlhppmhacdoilaa

/-
  The document's names of spaces: Of.
-/
import Derived.Test.YtpffilnebffijaaRNamA
namespace Go.Proofs.Ytpffilnebffijaa
open Go.ChangeShapes Go.WideShapes Go.ChangeAt Go.RowKit

theorem idx4 (n : NS) {j : Nat} (hj : j < 4) (wx : World) :
    (Instr.index 76 (.agg #[.int .i64 (n.P 0), .int .i64 (n.P 1), .int .i64 (n.P 2), .int .i64 (n.P 3)]) (.int .i64 j)).run Try.prog wx = .ok (.int .i64 (n.P j)) wx := by
  rcases (by omega : j = 0 ∨ j = 1 ∨ j = 2 ∨ j = 3) with rfl | rfl | rfl | rfl <;> kernel_rfl
set_option maxRecDepth 20000 in
set_option maxHeartbeats 2000000 in
theorem rnof_any {w : World} {b : Nat} {n : NS} (h : RNAt w b n) (hg : n.g ≤ 1000000) (p : Int) :
    Calls Try.prog 38 #[.pointer (some ⟨b, 0, none⟩), .int .i64 p] w fun e w' => e = .returned (.tuple #[.int .i64 (n.ofP p), .bool (n.ofA p)]) ∧ RNAt w' b (n.ofN p) ∧ Touch (· = b) w w' := by
  have hP := fineP_any p w
  cases e : NS.isP p
  · have e1 : n.ofP p = 0 := by unfold NS.ofP; rw [if_pos e]
    have e2 : n.ofA p = false := by unfold NS.ofA; rw [e]; rfl
    have e3 : n.ofN p = n := by unfold NS.ofN; rw [if_pos e]
    rw [e] at hP
    rw [e1, e2, e3]
    go_enter Try.func38, Try.ntmps38
    go_wp2_with fail
    with_reducible refine hP.mono ?_
    rintro e wq ⟨rfl, rfl⟩
    go_wp2_with fail
    go_ret2
    exact ⟨rfl, h, Touch.refl _ _⟩
  · obtain ⟨p0, p1⟩ := (NS.isP_iff p).1 e
    have cc := h.pC p.toNat (by omega)
    have e' : ¬ NS.isP p = false := by rw [e]; decide
    by_cases hz : n.P p.toNat = 0
    · have hS : Hid _ := free_spec n
      have d0 := h.pC 0 (by omega)
      have d1 := h.pC 1 (by omega)
      have d2 := h.pC 2 (by omega)
      have d3 := h.pC 3 (by omega)
      have hix := fun (j : Nat) (hj : j < 4) => idx4 n hj w
      rw [e] at hP
      rw [hz] at cc
      have fz := h.frozen p.toNat
      have E0 : Hid (n.free ≠ 0 → n.ofP p = n.free ∧ n.ofA p = false ∧ n.ofN p = n.put p.toNat n.free) := fun hf =>
        ⟨by unfold NS.ofP; rw [if_neg e', if_neg (fun q => q hz), if_pos hf], by unfold NS.ofA; rw [e, hz]; simp; exact hf, by unfold NS.ofN; rw [if_neg e', if_neg (fun q => q hz), if_pos hf]⟩
      have E1 : Hid (n.free = 0 → n.ofP p = 1 ∧ n.ofA p = true ∧ n.ofN p = n.renew.put p.toNat 1) := fun hf =>
        ⟨by unfold NS.ofP; rw [if_neg e', if_neg (fun q => q hz), if_neg (fun q => q hf)], by unfold NS.ofA; rw [e, hz, hf]; rfl, by unfold NS.ofN; rw [if_neg e', if_neg (fun q => q hz), if_neg (fun q => q hf)]⟩
      clear e e' hz
      go_enter Try.func38, Try.ntmps38
      go_wp2_with fail
      with_reducible refine hP.mono ?_
      rintro e wq ⟨rfl, rfl⟩
      go_wp2_with fail
      go_loopg [6] 3 (fun g i wr => ∃ k : Nat, g + k = 3 ∧ i = .int .i64 ((k : Int) + 1) ∧ Hid (∀ j, 1 ≤ j → j ≤ k → n.had j = true) ∧ w = wr)
      case atStart => exact ⟨0, by omega, rfl, fun j hj => by omega, rfl⟩
      case round =>
        obtain ⟨k, hgk, rfl, hno, rfl⟩ := hrel
        by_cases hk : k < 3
        · have k1 : (k : Int) + 1 ≤ 3 := by omega
          go_wp2_with fail
          go_loopg [7, 34] 4 (fun g b i wr => ∃ j : Nat, g + j = 4 ∧ i = .int .i64 j ∧ b = .bool (n.hadTo (k + 1) j) ∧ w = wr)
          case atStart => exact ⟨0, by omega, rfl, rfl, rfl⟩
          case round =>
            obtain ⟨j, hgj, rfl, rfl, rfl⟩ := hrel
            by_cases hj : j < 4
            · have j1 : (j : Int) < 4 := by omega
              have hxj := hix j hj
              have hsN : Hid (n.hadTo (k + 1) (j + 1) = (n.hadTo (k + 1) j || ((n.P j : Int) == (k : Int) + 1))) := by
                show _ = _
                have : ((n.P j : Int) == (k : Int) + 1) = (n.P j == k + 1) := by rw [Bool.eq_iff_iff]; simp; omega
                rw [this]; rfl
              obtain ⟨x, hx⟩ : ∃ x : Int, Hid ((n.P j : Int) = x) := ⟨_, rfl⟩
              rw [hx.out] at hxj hsN
              cases ha : n.hadTo (k + 1) j
              · rw [ha] at hsN
                go_wp2_with fail
                go_roundg (3 - j)
                case measure => omega
                case rel => exact ⟨j + 1, by omega, by go_num, by rw [hsN.out, hx.out]; rfl, rfl⟩
              · rw [ha] at hsN
                go_wp2_with fail
                go_roundg (3 - j)
                case measure => omega
                case rel => exact ⟨j + 1, by omega, by go_num, by rw [hsN.out]; rfl, rfl⟩
            · have hj4 : j = 4 := by omega
              subst hj4
              rw [NS.hadTo_all]
              cases hh : n.had (k + 1)
              · have hf : Hid (n.free = k + 1) := by
                  show _ = _
                  rcases hS.out with ⟨_, a1, a2, a3⟩ | ⟨a1, a2, a3, a4⟩
                  · have : k = 0 ∨ k = 1 ∨ k = 2 := by omega
                    rcases this with q | q | q <;> subst q <;> simp_all
                  · by_cases q : n.free < k + 1
                    · have := hno.out n.free a1 (by omega); rw [a3] at this; cases this
                    · by_cases q2 : k + 1 < n.free
                      · have := a4 (k + 1) (by omega) q2; rw [hh] at this; cases this
                      · omega
                obtain ⟨f1, f2, f3⟩ := E0.out (by rw [hf.out]; omega)
                rw [hf.out] at f1 f3
                have hN := h.setP p.toNat (k + 1) (by omega)
                rw [← f3, show ((k + 1 : Nat) : Int) = (k : Int) + 1 by omega] at hN
                have tN := (Touch.refl (· = b) w).setCell (p := ⟨b, p.toNat, none⟩) rfl (.int .i64 ((k : Int) + 1))
                have F1 : Hid ((k : Int) + 1 = (n.ofP p : Int)) := by show _ = _; rw [f1]; omega
                have F2 : Hid (n.ofA p = false) := f2
                clear f1 f2 f3
                go_wp2_with fail
                go_ret2
                exact ⟨by rw [F1.out, F2.out]; rfl, hN, tN⟩
              · have hn2 : Hid (∀ j, 1 ≤ j → j ≤ k + 1 → n.had j = true) := fun j j0 j1 => by
                  by_cases e2 : j = k + 1
                  · subst e2; exact hh
                  · exact hno.out j j0 (by omega)
                go_wp2_with fail
                go_roundg (2 - k)
                case measure => omega
                case rel => exact ⟨k + 1, by omega, by go_num, hn2, rfl⟩
        · have h3 : k = 3 := by omega
          subst h3
          have hf : n.free = 0 := by
            rcases hS.out with ⟨a, _⟩ | ⟨a1, a2, a3, a4⟩
            · exact a
            · have := hno.out n.free a1 a2; rw [a3] at this; cases this
          obtain ⟨f1, f2, f3⟩ := E1.out hf
          have F1 : Hid (n.ofP p = 1) := f1
          have F2 : Hid (n.ofA p = true) := f2
          have cg := h.gC
          have fg := h.frozen 13
          have gN := h.setG (n.g + 1)
          rw [show ((n.g + 1 : Nat) : Int) = (n.g : Int) + 1 by omega] at gN
          have g1 : (n.g : Int) ≤ 1000000 := by omega
          have hp1 := gN.setPs
          have tP := ((Touch.refl (· = b) w).setCell (p := ⟨b, 13, none⟩) rfl (.int .i64 ((n.g : Int) + 1))).setCells rfl p4 0
          have thP := there_of_row gN 0 4 (by omega)
          have hm1 := hp1.setMs
          have tM := tP.setCells rfl m8 4
          have thM := there_of_row hp1 4 8 (by omega)
          have cF := hm1.pC p.toNat (by omega)
          have fF := hm1.frozen p.toNat
          have hL := hm1.setP p.toNat 1 (by omega)
          have tL := tM.setCell (p := ⟨b, p.toNat, none⟩) rfl (.int .i64 1)
          rw [show (({ n with g := n.g + 1, P := fun _ => 0, M := fun _ _ => false } : NS).put p.toNat 1) = n.ofN p from f3.symm] at hL
          clear f1 f2 f3 hf gN hp1 hm1 tP tM hix d0 d1 d2 d3 cc hS E0 E1 hno
          go_upto_region 18 with fail
          generalize w.setCell ⟨b, 13, none⟩ (.int .i64 ((n.g : Int) + 1)) = W1 at *
          go_upto_region 19 with (refine wpList_store_mid rfl 76 (.tmp 63) (.tmp 61) rfl b 0 p4.toArray rfl rfl thP (by kernel_rfl) (by kernel_rfl) ?_)
          replace hL : RNAt (((W1.setCells b 0 p4.toArray.toList).setCells b 4 m8.toArray.toList).setCell ⟨b, p.toNat, none⟩ (.int .i64 1)) b (n.ofN p) := hL
          replace tL : Touch (· = b) w (((W1.setCells b 0 p4.toArray.toList).setCells b 4 m8.toArray.toList).setCell ⟨b, p.toNat, none⟩ (.int .i64 1)) := tL
          replace thM : (W1.setCells b 0 p4.toArray.toList).there b 4 8 := thM
          replace cF : ((W1.setCells b 0 p4.toArray.toList).setCells b 4 m8.toArray.toList).cell? ⟨b, p.toNat, none⟩ = _ := cF
          replace fF : ((W1.setCells b 0 p4.toArray.toList).setCells b 4 m8.toArray.toList).frozen? ⟨b, p.toNat, none⟩ = _ := fF
          generalize W1.setCells b 0 p4.toArray.toList = W2 at *
          go_upto_region 20 with (refine wpList_store_mid rfl 78 (.tmp 67) (.tmp 65) rfl b 4 m8.toArray rfl rfl thM (by kernel_rfl) (by kernel_rfl) ?_)
          generalize W2.setCells b 4 m8.toArray.toList = W3 at *
          go_wp2_with fail
          go_ret2
          exact ⟨by rw [F1.out, F2.out]; rfl, hL, tL⟩
    · have e1 : n.ofP p = n.P p.toNat := by unfold NS.ofP; rw [if_neg e', if_pos hz]
      have e2 : n.ofA p = false := by unfold NS.ofA; rw [e]; simp; exact fun q => absurd q hz
      have e3 : n.ofN p = n := by unfold NS.ofN; rw [if_neg e', if_pos hz]
      rw [e] at hP
      rw [e1, e2, e3]
      have hpos : (0 : Int) < (n.P p.toNat : Int) := by omega
      generalize n.P p.toNat = K at *
      clear e1 e2 e3 hz e e'
      go_enter Try.func38, Try.ntmps38
      go_wp2_with fail
      with_reducible refine hP.mono ?_
      rintro e wq ⟨rfl, rfl⟩
      go_wp2_with fail
      go_ret2
      exact ⟨rfl, h, Touch.refl _ _⟩
end Go.Proofs.Ytpffilnebffijaa

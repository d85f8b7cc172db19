/-
  Package pcid: its calls.
-/
import Derived.Test.YtpffilnebffijaaNamS
import Derived.Test.YtpffilnebffijaaRows3
import Derived.Deep.LoopGhost
import Derived.Deep.DeepCutAuto
import Derived.Deep.CutBlock
namespace Go.Proofs.Ytpffilnebffijaa
open Go.ChangeShapes Go.WideShapes Go.ChangeAt Go.RowKit

theorem isPb (p : Int) : (NS.isP p = true ∧ 0 ≤ p ∧ p < 4) ∨ (NS.isP p = false ∧ p < 0) ∨ (NS.isP p = false ∧ 0 ≤ p ∧ 4 ≤ p) := by
  by_cases h : p < 0
  · exact Or.inr (Or.inl ⟨by simp [NS.isP]; omega, h⟩)
  · by_cases k : p < 4
    · exact Or.inl ⟨by simp [NS.isP]; omega, by omega, k⟩
    · exact Or.inr (Or.inr ⟨by simp [NS.isP]; omega, by omega, by omega⟩)
theorem isProc_any (p : Int) (w : World) :
    Calls Try.prog 79 #[.int .i64 p] w fun e w' => e = .returned (.bool (NS.isP p)) ∧ w = w' := by
  rcases isPb p with ⟨e, h, k⟩ | ⟨e, h⟩ | ⟨e, h, k⟩ <;> rw [e] <;>
  · go_enter Try.func79, Try.ntmps79
    go_wp2
    go_ret
    exact ⟨ret_bool (by simp; try omega), rfl⟩
theorem isPr_any (k : Int) (w : World) :
    Calls Try.prog 83 #[.int .i64 k] w fun e w' => e = .returned (.bool (NS.isPr k)) ∧ w = w' := by
  by_cases h : 1 ≤ k
  · by_cases h2 : k ≤ 3
    · have e : NS.isPr k = true := (NS.isPr_iff k).2 ⟨h, h2⟩
      rw [e]
      go_enter Try.func83, Try.ntmps83
      go_wp2
      go_ret
      exact ⟨rfl, rfl⟩
    · have e : NS.isPr k = false := by rw [Bool.eq_false_iff, Ne, NS.isPr_iff]; omega
      rw [e]
      go_enter Try.func83, Try.ntmps83
      go_wp2
      go_ret
      exact ⟨rfl, rfl⟩
  · have e : NS.isPr k = false := by rw [Bool.eq_false_iff, Ne, NS.isPr_iff]; omega
    rw [e]
    go_enter Try.func83, Try.ntmps83
    go_wp2
    go_ret
    exact ⟨rfl, rfl⟩
theorem nhas_any {w : World} {b : Nat} {n : NS} (h : NAt w b n) (c : Int) :
    Calls Try.prog 82 #[.pointer (some ⟨b, 0, none⟩), .int .i64 c] w fun e w' => e = .returned (.bool (n.hasC c)) ∧ w = w' := by
  have cc := h.cC
  by_cases h1 : 0 ≤ c
  · by_cases h2 : c < n.c
    · have e : n.hasC c = true := (n.hasC_iff c).2 ⟨h1, h2⟩
      rw [e]
      go_enter Try.func82, Try.ntmps82
      go_wp2
      go_ret
      first | exact ⟨rfl, rfl⟩ | exact ⟨ret_bool (by simp; try omega), rfl⟩
    · have e : n.hasC c = false := by rw [Bool.eq_false_iff, Ne, NS.hasC_iff]; omega
      rw [e]
      go_enter Try.func82, Try.ntmps82
      go_wp2
      go_ret
      first | exact ⟨rfl, rfl⟩ | exact ⟨ret_bool (by simp; try omega), rfl⟩
  · have e : n.hasC c = false := by rw [Bool.eq_false_iff, Ne, NS.hasC_iff]; omega
    rw [e]
    go_enter Try.func82, Try.ntmps82
    go_wp2
    go_ret
    exact ⟨rfl, rfl⟩
set_option maxHeartbeats 400000 in
theorem npair_any {w : World} {b : Nat} {n : NS} (h : NAt w b n) (p : Int) :
    Calls Try.prog 34 #[.pointer (some ⟨b, 0, none⟩), .int .i64 p] w fun e w' => e = .returned (.int .i64 (n.pair p)) ∧ w = w' := by
  have hP := isProc_any p w
  cases e : NS.isP p
  · have e1 : n.pair p = 0 := by unfold NS.pair; rw [e]; rfl
    rw [e] at hP
    rw [e1]
    go_enter Try.func34, Try.ntmps34
    go_wp2_with fail
    with_reducible refine hP.mono ?_
    rintro e wq ⟨rfl, rfl⟩
    go_wp2_with fail
    go_ret
    exact ⟨rfl, rfl⟩
  · have e1 : n.pair p = n.P p.toNat := by unfold NS.pair; rw [e]; rfl
    obtain ⟨p0, p1⟩ := (NS.isP_iff p).1 e
    rw [e] at hP
    rw [e1]
    have cc := h.pC p.toNat (by omega)
    go_enter Try.func34, Try.ntmps34
    go_wp2_with fail
    with_reducible refine hP.mono ?_
    rintro e wq ⟨rfl, rfl⟩
    go_wp2_with fail
    go_ret
    exact ⟨rfl, rfl⟩
theorem ngen_any {w : World} {b : Nat} {n : NS} (h : NAt w b n) :
    Calls Try.prog 33 #[.pointer (some ⟨b, 0, none⟩)] w fun e w' => e = .returned (.int .i64 n.g) ∧ w = w' := by
  have cc := h.gC
  go_enter Try.func33, Try.ntmps33
  go_wp2
  go_ret
  exact ⟨rfl, rfl⟩
set_option maxHeartbeats 400000 in
theorem nmust_any {w : World} {b : Nat} {n : NS} (h : NAt w b n) (ok : n.OK) (c k : Int) :
    Calls Try.prog 30 #[.pointer (some ⟨b, 0, none⟩), .int .i64 c, .int .i64 k] w fun e w' => e = .returned (.tuple #[]) ∧ NAt w' b (n.must c k) ∧ Touch (· = b) w w' := by
  have hH := nhas_any h c
  have hK := isPr_any k w
  cases e : n.hasC c
  · have e1 : n.must c k = n := by unfold NS.must; rw [e]; rfl
    rw [e] at hH
    rw [e1]
    go_enter Try.func30, Try.ntmps30
    go_wp2_with fail
    with_reducible refine hH.mono ?_
    rintro e wq ⟨rfl, rfl⟩
    go_wp2_with fail
    go_end0
    exact ⟨rfl, h, Touch.refl _ _⟩
  · rw [e] at hH
    cases f : NS.isPr k
    · have e1 : n.must c k = n := by unfold NS.must; rw [e, f]; rfl
      rw [f] at hK
      rw [e1]
      go_enter Try.func30, Try.ntmps30
      go_wp2_with fail
      with_reducible refine hH.mono ?_
      rintro e wq ⟨rfl, rfl⟩
      go_wp2_with fail
      with_reducible refine hK.mono ?_
      rintro e wq ⟨rfl, rfl⟩
      go_wp2_with fail
      go_end0
      exact ⟨rfl, h, Touch.refl _ _⟩
    · have e1 : n.must c k = n.lay c.toNat k.toNat true := by unfold NS.must; rw [e, f]; rfl
      obtain ⟨c0, c1⟩ := (NS.hasC_iff n c).1 e
      obtain ⟨k0, k1⟩ := (NS.isPr_iff k).1 f
      have c2 := ok.c2
      have c3 : c < 2 := by omega
      rw [f] at hK
      rw [e1]
      have cc := h.mC c.toNat k.toNat (by omega) (by omega)
      have fz := h.frozen (5 + c.toNat * 4 + k.toNat)
      have hN := h.setM c.toNat k.toNat (by omega) (by omega) true
      have tN := (Touch.refl (· = b) w).setCell (p := ⟨b, 5 + c.toNat * 4 + k.toNat, none⟩) rfl (.bool true)
      clear c1 c2
      go_enter Try.func30, Try.ntmps30
      go_wp2_with fail
      with_reducible refine hH.mono ?_
      rintro e wq ⟨rfl, rfl⟩
      go_wp2_with fail
      with_reducible refine hK.mono ?_
      rintro e wq ⟨rfl, rfl⟩
      go_wp2_with fail
      go_end0
      exact ⟨rfl, hN, tN⟩
set_option maxHeartbeats 400000 in
theorem ntake_any {w : World} {b : Nat} {n : NS} (h : NAt w b n) (ok : n.OK) (c k : Int) :
    Calls Try.prog 32 #[.pointer (some ⟨b, 0, none⟩), .int .i64 c, .int .i64 k] w fun e w' => e = .returned (.bool (n.took c k)) ∧ NAt w' b (n.take c k) ∧ Touch (· = b) w w' := by
  have hH := nhas_any h c
  have hK := isPr_any k w
  cases e : n.hasC c
  · have e0 : n.took c k = false := by unfold NS.took; rw [e]; rfl
    have e1 : n.take c k = n := by unfold NS.take; rw [e0]; rfl
    rw [e] at hH
    rw [e1, e0]
    go_enter Try.func32, Try.ntmps32
    go_wp2_with fail
    with_reducible refine hH.mono ?_
    rintro e wq ⟨rfl, rfl⟩
    go_wp2_with fail
    go_ret
    exact ⟨rfl, h, Touch.refl _ _⟩
  · rw [e] at hH
    cases f : NS.isPr k
    · have e0 : n.took c k = false := by unfold NS.took; rw [e, f]; rfl
      have e1 : n.take c k = n := by unfold NS.take; rw [e0]; rfl
      rw [f] at hK
      rw [e1, e0]
      go_enter Try.func32, Try.ntmps32
      go_wp2_with fail
      with_reducible refine hH.mono ?_
      rintro e wq ⟨rfl, rfl⟩
      go_wp2_with fail
      with_reducible refine hK.mono ?_
      rintro e wq ⟨rfl, rfl⟩
      go_wp2_with fail
      go_ret
      exact ⟨rfl, h, Touch.refl _ _⟩
    · have e0 : n.took c k = n.M c.toNat k.toNat := by unfold NS.took; rw [e, f]; rfl
      obtain ⟨c0, c1⟩ := (NS.hasC_iff n c).1 e
      obtain ⟨k0, k1⟩ := (NS.isPr_iff k).1 f
      have c2 := ok.c2
      have c3 : c < 2 := by omega
      rw [f] at hK
      have cc := h.mC c.toNat k.toNat (by omega) (by omega)
      have fz := h.frozen (5 + c.toNat * 4 + k.toNat)
      cases m : n.M c.toNat k.toNat
      · rw [m] at cc e0
        have e1 : n.take c k = n := by unfold NS.take; rw [e0]; rfl
        rw [e0, e1]
        clear c1 c2
        go_enter Try.func32, Try.ntmps32
        go_wp2_with fail
        with_reducible refine hH.mono ?_
        rintro e wq ⟨rfl, rfl⟩
        go_wp2_with fail
        with_reducible refine hK.mono ?_
        rintro e wq ⟨rfl, rfl⟩
        go_wp2_with fail
        go_ret
        exact ⟨rfl, h, Touch.refl _ _⟩
      · rw [m] at cc e0
        have e1 : n.take c k = n.lay c.toNat k.toNat false := by unfold NS.take; rw [e0]; rfl
        rw [e0, e1]
        have hN := h.setM c.toNat k.toNat (by omega) (by omega) false
        have tN := (Touch.refl (· = b) w).setCell (p := ⟨b, 5 + c.toNat * 4 + k.toNat, none⟩) rfl (.bool false)
        clear c1 c2
        go_enter Try.func32, Try.ntmps32
        go_wp2_with fail
        with_reducible refine hH.mono ?_
        rintro e wq ⟨rfl, rfl⟩
        go_wp2_with fail
        with_reducible refine hK.mono ?_
        rintro e wq ⟨rfl, rfl⟩
        go_wp2_with fail
        go_ret
        exact ⟨rfl, hN, tN⟩
end Go.Proofs.Ytpffilnebffijaa

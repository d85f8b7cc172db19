/-
  Package sched: its calls.
-/
import Derived.Test.YtlhppmhacdoilaaSchS
import Derived.Deep.LoopGhost
import Derived.Deep.DeepCutAuto
import Derived.Deep.CutBlock
import Derived.Deep.QuietTactic
import Derived.BigQuiet
namespace Go.Proofs.Ytlhppmhacdoilaa
open Go.ChangeShapes Go.WideShapes Go.ChangeAt Go.RowKit

theorem sdP (p : Int) : (Sd.isP p = true ∧ 0 ≤ p ∧ p < 4) ∨ (Sd.isP p = false ∧ p < 0) ∨ (Sd.isP p = false ∧ 0 ≤ p ∧ 4 ≤ p) := by
  by_cases h : p < 0
  · exact Or.inr (Or.inl ⟨by simp [Sd.isP]; omega, h⟩)
  · by_cases k : p < 4
    · exact Or.inl ⟨by simp [Sd.isP]; omega, by omega, k⟩
    · exact Or.inr (Or.inr ⟨by simp [Sd.isP]; omega, by omega, by omega⟩)
theorem sdIs_any (p : Int) (w : World) :
    Calls Try.prog 23 #[.int .i64 p] w fun e w' => e = .returned (.bool (Sd.isP p)) ∧ w = w' := by
  rcases sdP p with ⟨e, h, k⟩ | ⟨e, h⟩ | ⟨e, h, k⟩ <;> rw [e] <;>
  · go_enter Try.func23, Try.ntmps23
    go_wp2
    go_ret
    exact ⟨ret_bool (by simp; try omega), rfl⟩
theorem sdHas_any {w : World} {b g : Nat} {s : Sd} (h : SdAt w b g s) (c : Int) :
    Calls Try.prog 24 #[.pointer (some ⟨b, 0, none⟩), .int .i64 c] w fun e w' => e = .returned (.bool (s.hasC c)) ∧ w = w' := by
  have cc := h.sC
  by_cases h1 : 0 ≤ c
  · by_cases h2 : c < s.c
    · have e : s.hasC c = true := (s.hasC_iff c).2 ⟨h1, h2⟩
      rw [e]
      go_enter Try.func24, Try.ntmps24
      go_wp2
      go_ret
      first | exact ⟨rfl, rfl⟩ | exact ⟨ret_bool (by simp; try omega), rfl⟩
    · have e : s.hasC c = false := by rw [Bool.eq_false_iff, Ne, Sd.hasC_iff]; omega
      rw [e]
      go_enter Try.func24, Try.ntmps24
      go_wp2
      go_ret
      first | exact ⟨rfl, rfl⟩ | exact ⟨ret_bool (by simp; try omega), rfl⟩
  · have e : s.hasC c = false := by rw [Bool.eq_false_iff, Ne, Sd.hasC_iff]; omega
    rw [e]
    go_enter Try.func24, Try.ntmps24
    go_wp2
    go_ret
    exact ⟨rfl, rfl⟩
set_option maxHeartbeats 400000 in
theorem sdWhere_any {w : World} {b g : Nat} {s : Sd} (h : SdAt w b g s) (p : Int) :
    Calls Try.prog 10 #[.pointer (some ⟨b, 0, none⟩), .int .i64 p] w fun e w' => e = .returned (.int .i64 (s.wh p)) ∧ w = w' := by
  have cc := h.sC
  have H : Hid _ := s.wh_or p
  go_enter Try.func10, Try.ntmps10
  go_wp2_with fail
  go_loopg [11] s.c (fun g i wr => ∃ k : Nat, g + k = s.c ∧ i = .int .i64 k ∧ Hid (∀ j, j < k → s.hit j p = false) ∧ w = wr)
  case atStart => exact ⟨0, by omega, rfl, fun j hj => by omega, rfl⟩
  case round =>
    obtain ⟨k, hgk, rfl, hno, rfl⟩ := hrel
    by_cases hk : k < s.c
    · have k1 : (k : Int) < s.c := by omega
      have c1 := h.lC k hk
      have c2 := h.rC k hk
      have e : s.hit k p = (((s.L k).1 : Int) == p && s.R k) := rfl
      generalize ((s.L k).1 : Int) = x at *
      generalize s.R k = y at *
      have few := s.c_le
      have no : s.hit k p = false → Hid (∀ j, j < k + 1 → s.hit j p = false) := fun hh j hj => by
        by_cases e2 : j = k
        · subst e2; exact hh
        · exact hno.out j (by omega)
      have yes : s.hit k p = true → Hid (s.wh p = (k : Int)) := fun hh => by
        show _ = _
        rcases H.out with ⟨_, a⟩ | ⟨i, i1, i2, i3, i4⟩
        · rw [a k hk] at hh; cases hh
        · by_cases q : i < k
          · rw [hno.out i q] at i3; cases i3
          · by_cases q2 : k < i
            · rw [i4 k q2] at hh; cases hh
            · rw [i2]; omega
      rw [e] at no yes
      clear e
      cases y
      · rw [Bool.and_false] at no
        have hn2 := no rfl
        clear no yes
        go_wp2_with fail
        go_roundg (s.c - (k + 1))
        case measure => omega
        case rel => exact ⟨k + 1, by omega, by go_num, hn2, rfl⟩
      · rw [Bool.and_true] at no yes
        cases h1 : (x == p)
        · have hn2 := no h1
          clear no yes
          go_wp2_with fail
          go_roundg (s.c - (k + 1))
          case measure => omega
          case rel => exact ⟨k + 1, by omega, by go_num, hn2, rfl⟩
        · have hw := yes h1
          clear no yes
          go_wp2_with fail
          go_ret
          exact ⟨ret_int hw.out.symm, rfl⟩
    · have h4 : k = s.c := by omega
      have hw : Hid (s.wh p = -1) := by
        show _ = _
        rcases H.out with ⟨a, _⟩ | ⟨i, i1, i2, i3, i4⟩
        · exact a
        · rw [hno.out i (by omega)] at i3; cases i3
      subst h4
      go_wp2_with fail
      go_ret
      exact ⟨ret_int hw.out.symm, rfl⟩
set_option maxHeartbeats 400000 in
theorem sdMay_any {w : World} {b g : Nat} {s : Sd} (h : SdAt w b g s) (p : Nat) (hp : p < 4) (c : Int) :
    Calls Try.prog 25 #[.pointer (some ⟨b, 0, none⟩), .int .i64 p, .int .i64 c] w fun e w' => e = .returned (.bool (s.may p c)) ∧ w = w' := by
  have hW := sdWhere_any h (p : Int)
  have cc := h.aC p hp
  have p1 : (p : Int) < 4 := by omega
  have e : s.may p c = (s.A p && (s.wh p == -1 || s.wh p == c)) := rfl
  rw [e]
  generalize s.wh p = x at *
  generalize s.A p = y at *
  clear e
  go_enter Try.func25, Try.ntmps25
  go_wp2_with fail
  with_reducible refine hW.mono ?_
  rintro e wq ⟨rfl, rfl⟩
  cases y
  · go_wp2_with fail
    go_ret
    exact ⟨rfl, rfl⟩
  · cases h1 : (x == -1)
    · cases h2 : (x == c)
      · go_wp2_with fail
        go_ret
        exact ⟨ret_bool (by rw [h1, h2]; rfl), rfl⟩
      · go_wp2_with fail
        go_ret
        exact ⟨ret_bool (by rw [h1, h2]; rfl), rfl⟩
    · go_wp2_with fail
      go_ret
      exact ⟨ret_bool (by rw [h1]; rfl), rfl⟩
end Go.Proofs.Ytlhppmhacdoilaa

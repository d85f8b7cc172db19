/-
  Both TLBs hold the same.
-/
import Derived.Test.YtleeodpnamnnfaaRTlbD
namespace Go.Proofs.Ytleeodpnamnnfaa
open Go.ChangeShapes Go.WideShapes Go.ChangeAt Go.RowKit

set_option maxHeartbeats 1000000 in
theorem tsame_yes {w : World} {P lo r : Nat} {g : Option Nat} {l : List It} (h : TAt w P g l) (hR : RT w lo r l) :
    Calls Try.prog 24 #[.pointer (some ⟨P, 0, none⟩), .pointer (some ⟨r, 0, none⟩)] w fun e w' => e = .returned (.bool true) ∧ Touch Nil w w' := by
  have hl := tlist_any h
  have h8 := h.1
  go_enter Try.func24, Try.ntmps24
  go_wp2_with fail
  refine hl.mono ?_
  rintro e w1 ⟨a, cap, rfl, hL, _, ho, t1⟩
  have hR1 := hR.nil t1
  obtain ⟨_, a2, cap2, hr, hL2, _⟩ := hR1
  have c0 := hr.cell (i := 0) (by omega)
  clear hl hR
  go_wp2_with fail
  go_loopg [21] l.length (fun g i wr => ∃ j : Nat, g + j = l.length ∧ i = .int .i64 j ∧ Aside (Touch Nil w1 wr))
  case atStart => exact ⟨0, by omega, rfl, Touch.refl _ _⟩
  case round =>
    obtain ⟨j, hgj, rfl, T⟩ := hrel
    by_cases hlt : j < l.length
    · have j1 : (j : Int) < (l.length : Int) := by omega
      have hne : l ≠ [] := by intro h; rw [h] at hlt; simp at hlt
      obtain ⟨b2, o2, rfl, L2⟩ := LAt.row hL hne
      obtain ⟨b3, o3, rfl, L3⟩ := LAt.row hL2 hne
      obtain rfl : o2 = 0 := (ho _ rfl).1
      have hy : l[j]? = some l[j] := List.getElem?_eq_getElem hlt
      generalize l[j] = y at hy
      have cr := touch_cell T.out c0 (by simp [Nil])
      obtain ⟨c0, c1, c2, c3, c4, c5⟩ := (L2.touch T.out (by simp [Nil])).six0 hy
      obtain ⟨d0, d1, d2, d3, d4, d5⟩ := (L3.touch T.out (by simp [Nil])).six hy
      go_wp2
      go_quiet (fail)
      go_wp2
      go_roundg (l.length - (j + 1))
      case measure => omega
      case rel => exact ⟨j + 1, by omega, by go_num, T.out.drews _⟩
    · obtain rfl : j = l.length := by omega
      have j1 : ¬ ((l.length : Int) < (l.length : Int)) := by omega
      go_wp2
      go_ret
      exact ⟨rfl, t1.trans T.out⟩
end Go.Proofs.Ytleeodpnamnnfaa

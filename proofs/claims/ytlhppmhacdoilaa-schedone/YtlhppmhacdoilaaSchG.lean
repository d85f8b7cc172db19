/-
  Package sched: plain facts on one CPU.
-/
import Derived.Test.YtlhppmhacdoilaaSchF
namespace Go.Proofs.Ytlhppmhacdoilaa
open Go.ChangeShapes Go.WideShapes Go.ChangeAt Go.RowKit

namespace Sd
def bitA (al p : Nat) : Bool := al / 2 ^ p % 2 == 1
/-- Those whose digit is 1, awake. -/
def stA (al : Nat) : Nat → Sd
  | 0 => fresh false
  | p + 1 => if bitA al p = true then (stA al p).wake p else stA al p
def lsA (al : Nat) : Nat → List Int
  | 0 => []
  | p + 1 => if bitA al p = true then lsA al p ++ [(p : Int)] else lsA al p
theorem lsA_len (al : Nat) : ∀ p, (lsA al p).length ≤ p
  | 0 => Nat.le_refl _
  | p + 1 => by
    have := lsA_len al p
    unfold lsA
    split
    · rw [List.length_append]; simp; omega
    · omega
/-- Whose turn it is. -/
def wantA (l : List Int) (i : Nat) : Int := if l.length = 0 then -1 else l.getD (i % l.length) 0
theorem one_pick_fin : ∀ al : Fin 16, ∀ i : Fin 20, ((((stA al.1 4).turns i.1).pick 0 == wantA (lsA al.1 4) i.1) && ((((stA al.1 4).turns i.1).picked 0).on 0 == wantA (lsA al.1 4) i.1)) = true := by decide +kernel
theorem one_pick {al i : Nat} (ha : al < 16) (hi : i < 20) : ((stA al 4).turns i).pick 0 = wantA (lsA al 4) i ∧ (((stA al 4).turns i).picked 0).on 0 = wantA (lsA al 4) i := by
  have := one_pick_fin ⟨al, ha⟩ ⟨i, hi⟩
  simpa using this
/-- What holds of one CPU. -/
def lone (s : Sd) : Bool := s.good && !s.two
theorem lone_st_fin : ∀ al : Fin 16, ((stA al.1 4).lone && ((stA al.1 4).live == lsA al.1 4)) = true := by decide +kernel
theorem lone_st {al : Nat} (ha : al < 16) : (stA al 4).lone = true ∧ (stA al 4).live = lsA al 4 := by
  have := lone_st_fin ⟨al, ha⟩
  simpa using this
theorem lone_iff (s : Sd) : s.lone = true ↔ s.good = true ∧ s.two = false := by simp [lone]
theorem lone_picked {s : Sd} (h : s.lone = true) (c : Int) : (s.picked c).lone = true := by
  obtain ⟨h1, h2⟩ := (lone_iff s).1 h
  exact (lone_iff _).2 ⟨good_picked h1 c, (picked_two s c).trans h2⟩
theorem lone_fin {s : Sd} (h : s.lone = true) (p : Int) : (s.fin p).lone = true := by
  obtain ⟨h1, h2⟩ := (lone_iff s).1 h
  exact (lone_iff _).2 ⟨good_fin h1 p, (fin_two s p).trans h2⟩
theorem lone_turns {s : Sd} (h : s.lone = true) : ∀ k, (s.turns k).lone = true
  | 0 => h
  | k + 1 => lone_picked (lone_turns h k) 0
theorem live_A {s s' : Sd} (h : ∀ i, i < 4 → s'.A i = s.A i) : s'.live = s.live := by
  rw [← liveTo_four, ← liveTo_four]
  have h0 := h 0 (by omega)
  have h1 := h 1 (by omega)
  have h2 := h 2 (by omega)
  have h3 := h 3 (by omega)
  simp only [liveTo, h0, h1, h2, h3]
theorem live_turns (s : Sd) (k : Nat) : (s.turns k).live = s.live := live_A fun i _ => s.turns_A i k
theorem lone_pick_fin (s : Sd) : (!s.lone || ((s.pick 0 == -1 && s.live.length == 0) || (decide (0 ≤ s.pick 0) && decide (s.pick 0 < 4) && s.A (s.pick 0).toNat && decide (0 < s.live.length)))) = true :=
  all (fun s => !s.lone || ((s.pick 0 == -1 && s.live.length == 0) || (decide (0 ≤ s.pick 0) && decide (s.pick 0 < 4) && s.A (s.pick 0).toNat && decide (0 < s.live.length)))) (by decide +kernel) s
theorem lone_pick {s : Sd} (h : s.lone = true) : (s.pick 0 = -1 ∧ s.live.length = 0) ∨ ∃ i : Nat, i < 4 ∧ s.pick 0 = (i : Int) ∧ s.A i = true ∧ 0 < s.live.length := by
  have := lone_pick_fin s
  rw [h] at this
  simp only [Bool.not_true, Bool.false_or, Bool.or_eq_true, Bool.and_eq_true, beq_iff_eq, decide_eq_true_eq] at this
  rcases this with ⟨a, b⟩ | ⟨⟨⟨a, b⟩, c⟩, d⟩
  · exact Or.inl ⟨a, b⟩
  · exact Or.inr ⟨(s.pick 0).toNat, by omega, by omega, c, d⟩
theorem live_mem_fin (s : Sd) : ((s.live.all fun p => decide (0 ≤ p) && decide (p < 4) && s.A p.toNat && ((s.fin p).live.length + 1 == s.live.length) && !(s.fin p).A p.toNat) && decide (s.live.length ≤ 4)) = true :=
  all (fun s => (s.live.all fun p => decide (0 ≤ p) && decide (p < 4) && s.A p.toNat && ((s.fin p).live.length + 1 == s.live.length) && !(s.fin p).A p.toNat) && decide (s.live.length ≤ 4)) (by decide +kernel) s
theorem live_mem (s : Sd) {p : Int} (h : p ∈ s.live) : ∃ i : Nat, i < 4 ∧ p = (i : Int) ∧ (s.fin p).live.length + 1 = s.live.length ∧ (s.fin p).A i = false := by
  have := live_mem_fin s
  simp only [Bool.and_eq_true, List.all_eq_true, decide_eq_true_eq, beq_iff_eq, Bool.not_eq_true'] at this
  obtain ⟨⟨⟨⟨a, b⟩, c⟩, d⟩, e⟩ := this.1 p h
  exact ⟨p.toNat, by omega, by omega, d, e⟩
theorem live_few (s : Sd) : s.live.length ≤ 4 := by
  have := live_mem_fin s
  simp only [Bool.and_eq_true, decide_eq_true_eq] at this
  exact this.2
/-- Behind who has ended: none is that one; there is one just if another was alive. -/
theorem ended {s : Sd} (h : s.lone = true) {p : Int} (hp : p ∈ s.live) (i : Nat) :
    (((s.fin p).turns i).pick 0 == p) = false ∧ (decide (((s.fin p).turns i).pick 0 < 0) = decide (s.live.length = 1)) := by
  obtain ⟨k, k4, rfl, hl, ha⟩ := s.live_mem hp
  have hL := lone_turns (lone_fin h (k : Int)) i
  have hv := live_turns (s.fin (k : Int)) i
  rcases lone_pick hL with ⟨a, b⟩ | ⟨j, j4, a, b, c⟩
  · rw [a, hv] at *
    refine ⟨by simp, ?_⟩
    rw [decide_eq_true (show (-1 : Int) < 0 by omega), decide_eq_true (show s.live.length = 1 by omega)]
  · rw [turns_A] at b
    rw [a]
    rw [hv] at c
    refine ⟨?_, ?_⟩
    · have : j ≠ k := by rintro rfl; rw [ha] at b; cases b
      simp; omega
    · rw [decide_eq_false (show ¬ ((j : Int) < 0) by omega), decide_eq_false (show ¬ s.live.length = 1 by omega)]
end Sd
end Go.Proofs.Ytlhppmhacdoilaa

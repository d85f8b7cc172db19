/-
  Package sched: plain facts, of all states at once.
-/
import Derived.Test.YtlhppmhacdoilaaSchE
namespace Go.Proofs.Ytlhppmhacdoilaa
open Go.ChangeShapes Go.WideShapes Go.ChangeAt Go.RowKit

namespace Sd
/-- Who runs is alive, and runs in one place. -/
def good (s : Sd) : Bool := (!s.r0 || s.A s.l0.1) && (!(s.two && s.r1) || s.A s.l1.1) && !(s.two && s.r0 && s.r1 && s.l0 == s.l1)
theorem all (P : Sd → Bool) (h : ∀ t a0 a1 a2 a3 : Bool, ∀ l0 l1 : Fin 4, ∀ r0 r1 : Bool, P ⟨t, a0, a1, a2, a3, l0, l1, r0, r1⟩ = true) (s : Sd) : P s = true := h _ _ _ _ _ _ _ _ _
theorem good_fresh (t : Bool) : (fresh t).good = true := by cases t <;> decide
theorem wake_good_fin (s : Sd) : (!s.good || ((s.wake 0).good && (s.wake 1).good && (s.wake 2).good && (s.wake 3).good)) = true := all (fun s => !s.good || ((s.wake 0).good && (s.wake 1).good && (s.wake 2).good && (s.wake 3).good)) (by decide +kernel) s
theorem fin_good_fin (s : Sd) : (!s.good || ((s.fin 0).good && (s.fin 1).good && (s.fin 2).good && (s.fin 3).good)) = true := all (fun s => !s.good || ((s.fin 0).good && (s.fin 1).good && (s.fin 2).good && (s.fin 3).good)) (by decide +kernel) s
theorem picked_good_fin (s : Sd) : (!s.good || ((s.picked 0).good && (s.picked 1).good)) = true := all (fun s => !s.good || ((s.picked 0).good && (s.picked 1).good)) (by decide +kernel) s
theorem good_wake {s : Sd} (h : s.good = true) (p : Int) : (s.wake p).good = true := by
  have := wake_good_fin s
  rw [h] at this
  simp at this
  by_cases q : p < 0 ∨ 4 ≤ p
  · rw [wake_out s p q]; exact h
  · rcases (by omega : p = 0 ∨ p = 1 ∨ p = 2 ∨ p = 3) with e | e | e | e <;> subst e
    · exact this.1.1.1
    · exact this.1.1.2
    · exact this.1.2
    · exact this.2
theorem good_fin {s : Sd} (h : s.good = true) (p : Int) : (s.fin p).good = true := by
  have := fin_good_fin s
  rw [h] at this
  simp at this
  by_cases q : p < 0 ∨ 4 ≤ p
  · rw [fin_out s p q]; exact h
  · rcases (by omega : p = 0 ∨ p = 1 ∨ p = 2 ∨ p = 3) with e | e | e | e <;> subst e
    · exact this.1.1.1
    · exact this.1.1.2
    · exact this.1.2
    · exact this.2
theorem good_picked {s : Sd} (h : s.good = true) (c : Int) : (s.picked c).good = true := by
  have := picked_good_fin s
  rw [h] at this
  simp at this
  by_cases q : c < 0 ∨ 2 ≤ c
  · rw [picked_out s c q]; exact h
  · rcases (by omega : c = 0 ∨ c = 1) with e | e <;> subst e
    · exact this.1
    · exact this.2
theorem wake_A (s : Sd) (p : Nat) (hp : p < 4) (i : Nat) (hi : i < 4) : (s.wake p).A i = if i = p then true else s.A i := by
  have e : isP p = true := (isP_iff _).2 (by omega)
  unfold wake wakes
  rw [e, Bool.true_and, Int.toNat_natCast]
  cases m : s.A p
  · rw [if_pos (show (!false) = true from rfl), setA_A s p true hp i hi]
  · rw [if_neg (by simp)]
    by_cases q : i = p
    · rw [if_pos q, q, m]
    · rw [if_neg q]
theorem off_A (s : Sd) (p : Int) (i : Nat) : (s.off p).A i = s.A i := by
  unfold off; split
  · rfl
  · exact setR_A _ _ _ _
theorem fin_A (s : Sd) (p : Nat) (hp : p < 4) (i : Nat) (hi : i < 4) : (s.fin p).A i = if i = p then false else s.A i := by
  have e : isP p = true := (isP_iff _).2 (by omega)
  unfold fin lives
  rw [e, Bool.true_and, Int.toNat_natCast]
  cases m : s.A p
  · rw [if_neg (by simp)]
    by_cases q : i = p
    · rw [if_pos q, q, m]
    · rw [if_neg q]
  · rw [if_pos rfl, off_A, setA_A s p false hp i hi]
theorem runs_A (s : Sd) (c : Nat) (p : Fin 4) (i : Nat) : (s.runs c p).A i = s.A i := by unfold runs; rw [setR_A, setL_A]
theorem picked_A (s : Sd) (c : Int) (i : Nat) : (s.picked c).A i = s.A i := by
  unfold picked; split
  · split
    · rfl
    · exact runs_A _ _ _ _
  · rfl
theorem wakes_at (s : Sd) (p : Nat) (hp : p < 4) : s.wakes p = !s.A p := by
  unfold wakes; rw [(isP_iff _).2 (by omega), Bool.true_and, Int.toNat_natCast]
theorem lives_at (s : Sd) (p : Nat) (hp : p < 4) : s.lives p = s.A p := by
  unfold lives; rw [(isP_iff _).2 (by omega), Bool.true_and, Int.toNat_natCast]
theorem wake_two (s : Sd) (p : Int) : (s.wake p).two = s.two := by
  unfold wake; split
  · exact setA_two _ _ _
  · rfl
theorem setR_two (s : Sd) (c : Nat) (x : Bool) : (s.setR c x).two = s.two := by unfold setR; split <;> rfl
theorem setL_two (s : Sd) (c : Nat) (x : Fin 4) : (s.setL c x).two = s.two := by unfold setL; split <;> rfl
theorem fin_two (s : Sd) (p : Int) : (s.fin p).two = s.two := by
  unfold fin; split
  · unfold off; split
    · exact setA_two _ _ _
    · rw [setR_two, setA_two]
  · rfl
theorem picked_two (s : Sd) (c : Int) : (s.picked c).two = s.two := by
  unfold picked; split
  · split
    · rfl
    · unfold runs; rw [setR_two, setL_two]
  · rfl
/-- Who runs where, of a good state with two CPUs. -/
theorem on_fin (s : Sd) : (!(s.good && s.two) || ((s.on 0 == -1 || (s.on 0 != s.on 1 && decide (0 ≤ s.on 0) && decide (s.on 0 < 4) && s.A (s.on 0).toNat)) && (s.on 1 == -1 || (decide (0 ≤ s.on 1) && decide (s.on 1 < 4) && s.A (s.on 1).toNat)))) = true :=
  all (fun s => !(s.good && s.two) || ((s.on 0 == -1 || (s.on 0 != s.on 1 && decide (0 ≤ s.on 0) && decide (s.on 0 < 4) && s.A (s.on 0).toNat)) && (s.on 1 == -1 || (decide (0 ≤ s.on 1) && decide (s.on 1 < 4) && s.A (s.on 1).toNat)))) (by decide +kernel) s
theorem on_good {s : Sd} (h : s.good = true) (t : s.two = true) :
    (s.on 0 = -1 ∨ (s.on 0 ≠ s.on 1 ∧ ∃ i : Nat, i < 4 ∧ s.on 0 = (i : Int) ∧ s.A i = true)) ∧ (s.on 1 = -1 ∨ ∃ i : Nat, i < 4 ∧ s.on 1 = (i : Int) ∧ s.A i = true) := by
  have := on_fin s
  rw [h, t] at this
  simp at this
  obtain ⟨h0, h1⟩ := this
  refine ⟨?_, ?_⟩
  · rcases h0 with h0 | ⟨⟨⟨e, e0⟩, e1⟩, e2⟩
    · exact Or.inl h0
    · exact Or.inr ⟨e, (s.on 0).toNat, by omega, by omega, e2⟩
  · rcases h1 with h1 | ⟨⟨e0, e1⟩, e2⟩
    · exact Or.inl h1
    · exact Or.inr ⟨(s.on 1).toNat, by omega, by omega, e2⟩
/-- What Pick finds. -/
theorem pick_fin (s : Sd) : (!(s.good && s.two) || (((s.pick 0 == -1) || (decide (0 ≤ s.pick 0) && decide (s.pick 0 < 4) && s.A (s.pick 0).toNat && s.pick 0 != (s.picked 0).on 1)) && (s.picked 0).on 1 == s.on 1)) = true :=
  all (fun s => !(s.good && s.two) || (((s.pick 0 == -1) || (decide (0 ≤ s.pick 0) && decide (s.pick 0 < 4) && s.A (s.pick 0).toNat && s.pick 0 != (s.picked 0).on 1)) && (s.picked 0).on 1 == s.on 1)) (by decide +kernel) s
theorem pick_good {s : Sd} (h : s.good = true) (t : s.two = true) :
    (s.pick 0 = -1 ∨ ∃ i : Nat, i < 4 ∧ s.pick 0 = (i : Int) ∧ s.A i = true ∧ (i : Int) ≠ (s.picked 0).on 1) ∧ (s.picked 0).on 1 = s.on 1 := by
  have := pick_fin s
  rw [h, t] at this
  simp at this
  obtain ⟨h0, h1⟩ := this
  refine ⟨?_, h1⟩
  rcases h0 with h0 | ⟨⟨⟨e0, e1⟩, e2⟩, e3⟩
  · exact Or.inl h0
  · exact Or.inr ⟨(s.pick 0).toNat, by omega, by omega, e2, by omega⟩
/-- The state behind so many turns on the first CPU, and whom they found. -/
def turns (s : Sd) : Nat → Sd
  | 0 => s
  | k + 1 => (s.turns k).picked 0
def found (s : Sd) : Nat → List Int
  | 0 => []
  | k + 1 => (s.turns k).pick 0 :: s.found k
theorem fair_fin (s : Sd) : (!(s.good && s.two) || ((!s.A 0 || s.on 1 == 0 || (s.found 4).contains 0) && (!s.A 1 || s.on 1 == 1 || (s.found 4).contains 1) && (!s.A 2 || s.on 1 == 2 || (s.found 4).contains 2) && (!s.A 3 || s.on 1 == 3 || (s.found 4).contains 3))) = true :=
  all (fun s => !(s.good && s.two) || ((!s.A 0 || s.on 1 == 0 || (s.found 4).contains 0) && (!s.A 1 || s.on 1 == 1 || (s.found 4).contains 1) && (!s.A 2 || s.on 1 == 2 || (s.found 4).contains 2) && (!s.A 3 || s.on 1 == 3 || (s.found 4).contains 3))) (by decide +kernel) s
theorem fair {s : Sd} (h : s.good = true) (t : s.two = true) (i : Nat) (hi : i < 4) (ha : s.A i = true) (hn : s.on 1 ≠ (i : Int)) : (s.found 4).contains (i : Int) = true := by
  have := fair_fin s
  rw [h, t] at this
  simp only [Bool.and_self, Bool.not_true, Bool.false_or, Bool.and_eq_true, Bool.or_eq_true, Bool.not_eq_true', beq_iff_eq] at this
  match i, hi, ha, hn with
  | 0, _, ha, hn => exact (this.1.1.1.resolve_left (fun q => q.elim (fun q => by rw [ha] at q; cases q) (fun q => hn q)))
  | 1, _, ha, hn => exact (this.1.1.2.resolve_left (fun q => q.elim (fun q => by rw [ha] at q; cases q) (fun q => hn q)))
  | 2, _, ha, hn => exact (this.1.2.resolve_left (fun q => q.elim (fun q => by rw [ha] at q; cases q) (fun q => hn q)))
  | 3, _, ha, hn => exact (this.2.resolve_left (fun q => q.elim (fun q => by rw [ha] at q; cases q) (fun q => hn q)))
theorem turns_good {s : Sd} (h : s.good = true) : ∀ k, (s.turns k).good = true
  | 0 => h
  | k + 1 => good_picked (turns_good h k) 0
theorem turns_two (s : Sd) : ∀ k, (s.turns k).two = s.two
  | 0 => rfl
  | k + 1 => (picked_two _ 0).trans (turns_two s k)
theorem turns_A (s : Sd) (i : Nat) : ∀ k, (s.turns k).A i = s.A i
  | 0 => rfl
  | k + 1 => (picked_A _ 0 i).trans (turns_A s i k)
theorem turns_on {s : Sd} (h : s.good = true) (t : s.two = true) : ∀ k, (s.turns k).on 1 = s.on 1
  | 0 => rfl
  | k + 1 => (pick_good (turns_good h k) ((turns_two s k).trans t)).2.trans (turns_on h t k)
end Sd
end Go.Proofs.Ytlhppmhacdoilaa

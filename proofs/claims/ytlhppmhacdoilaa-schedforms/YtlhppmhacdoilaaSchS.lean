/-
  Package sched: who runs where, as a plain state.
-/
import Derived.Test.YtlhppmhacdoilaaCore
import Derived.Test.YtlhppmhacdoilaaKeep
namespace Go.Proofs.Ytlhppmhacdoilaa
open Go.ChangeShapes Go.WideShapes Go.ChangeAt Go.RowKit

/-- Two CPUs or one; who is alive; of each CPU who ran there last, and whether that one runs there. -/
structure Sd where
  two : Bool
  a0 : Bool
  a1 : Bool
  a2 : Bool
  a3 : Bool
  l0 : Fin 4
  l1 : Fin 4
  r0 : Bool
  r1 : Bool
  deriving DecidableEq

namespace Sd
def c (s : Sd) : Nat := if s.two = true then 2 else 1
def A (s : Sd) (i : Nat) : Bool := match i with
  | 0 => s.a0
  | 1 => s.a1
  | 2 => s.a2
  | _ => s.a3
def L (s : Sd) (i : Nat) : Fin 4 := match i with
  | 0 => s.l0
  | _ => s.l1
def R (s : Sd) (i : Nat) : Bool := match i with
  | 0 => s.r0
  | _ => s.r1
def setA (s : Sd) (p : Nat) (x : Bool) : Sd := match p with
  | 0 => { s with a0 := x }
  | 1 => { s with a1 := x }
  | 2 => { s with a2 := x }
  | _ => { s with a3 := x }
def setR (s : Sd) (c : Nat) (x : Bool) : Sd := match c with
  | 0 => { s with r0 := x }
  | _ => { s with r1 := x }
def setL (s : Sd) (c : Nat) (p : Fin 4) : Sd := match c with
  | 0 => { s with l0 := p }
  | _ => { s with l1 := p }
def isP (p : Int) : Bool := decide (0 ≤ p) && decide (p < 4)
def hasC (s : Sd) (c : Int) : Bool := decide (0 ≤ c) && decide (c < s.c)
/-- Does CPU i run p? -/
def hit (s : Sd) (i : Nat) (p : Int) : Bool := ((s.L i).1 : Int) == p && s.R i
def wh (s : Sd) (p : Int) : Int := if s.hit 0 p = true then 0 else if (s.two && s.hit 1 p) = true then 1 else -1
def may (s : Sd) (p : Nat) (c : Int) : Bool := s.A p && (s.wh p == -1 || s.wh p == c)
def on (s : Sd) (c : Int) : Int := if s.hasC c = true then (if s.R c.toNat = true then (s.L c.toNat).1 else -1) else -1
def lives (s : Sd) (p : Int) : Bool := isP p && s.A p.toNat
def wakes (s : Sd) (p : Int) : Bool := isP p && !s.A p.toNat
def wake (s : Sd) (p : Int) : Sd := if s.wakes p = true then s.setA p.toNat true else s
def off (s : Sd) (p : Int) : Sd := if s.wh p = -1 then s else s.setR (s.wh p).toNat false
def fin (s : Sd) (p : Int) : Sd := if s.lives p = true then (s.setA p.toNat false).off p else s
/-- The k-th behind the one that ran there last. -/
def nth (s : Sd) (c k : Nat) : Nat := ((s.L c).1 + k) % 4
def ok (s : Sd) (c k : Nat) : Bool := s.may (s.nth c k) c
/-- The least k at which one may run (0: there is none). -/
def step (s : Sd) (c : Nat) : Nat := if s.ok c 1 = true then 1 else if s.ok c 2 = true then 2 else if s.ok c 3 = true then 3 else if s.ok c 4 = true then 4 else 0
def runs (s : Sd) (c : Nat) (p : Fin 4) : Sd := (s.setL c p).setR c true
def pick (s : Sd) (c : Int) : Int := if s.hasC c = true then (if s.step c.toNat = 0 then -1 else (s.nth c.toNat (s.step c.toNat) : Nat)) else -1
def picked (s : Sd) (c : Int) : Sd := if s.hasC c = true then (if s.step c.toNat = 0 then s else s.runs c.toNat ⟨s.nth c.toNat (s.step c.toNat), Nat.mod_lt _ (by decide)⟩) else s
def fresh (t : Bool) : Sd := ⟨t, false, false, false, false, 3, 3, false, false⟩
def live (s : Sd) : List Int := (if s.a0 = true then [0] else []) ++ (if s.a1 = true then [1] else []) ++ (if s.a2 = true then [2] else []) ++ (if s.a3 = true then [3] else [])
def seat (s : Sd) (i : Nat) : Value := if i % 2 = 0 then .int .i64 (s.L (i / 2)).1 else .bool (s.R (i / 2))
def cell (s : Sd) (g i : Nat) : Value := if i < 4 then .bool (s.A i) else .slice (some ⟨g, 0, none⟩) s.c s.c

theorem isP_iff (p : Int) : isP p = true ↔ 0 ≤ p ∧ p < 4 := by simp [isP]
theorem hasC_iff (s : Sd) (c : Int) : s.hasC c = true ↔ 0 ≤ c ∧ c < s.c := by simp [hasC]
theorem c_le (s : Sd) : s.c ≤ 2 := by unfold c; split <;> omega
theorem c_ge (s : Sd) : 1 ≤ s.c := by unfold c; split <;> omega
theorem seat_l (s : Sd) (i : Nat) : s.seat (i * 2) = .int .i64 (s.L i).1 := by
  unfold seat; rw [if_pos (by omega), show i * 2 / 2 = i by omega]
theorem seat_r (s : Sd) (i : Nat) : s.seat (i * 2 + 1) = .bool (s.R i) := by
  unfold seat; rw [if_neg (by omega), show (i * 2 + 1) / 2 = i by omega]
theorem setA_A (s : Sd) (p : Nat) (x : Bool) (hp : p < 4) (i : Nat) (hi : i < 4) : (s.setA p x).A i = if i = p then x else s.A i := by
  match p, hp, i, hi with
  | 0, _, 0, _ | 0, _, 1, _ | 0, _, 2, _ | 0, _, 3, _ | 1, _, 0, _ | 1, _, 1, _ | 1, _, 2, _ | 1, _, 3, _ | 2, _, 0, _ | 2, _, 1, _ | 2, _, 2, _ | 2, _, 3, _ | 3, _, 0, _ | 3, _, 1, _ | 3, _, 2, _ | 3, _, 3, _ => rfl
theorem setA_c (s : Sd) (p : Nat) (x : Bool) : (s.setA p x).c = s.c := by unfold setA; split <;> rfl
theorem setA_two (s : Sd) (p : Nat) (x : Bool) : (s.setA p x).two = s.two := by unfold setA; split <;> rfl
theorem setA_L (s : Sd) (p : Nat) (x : Bool) (i : Nat) : (s.setA p x).L i = s.L i := by unfold setA L; split <;> split <;> rfl
theorem setA_R (s : Sd) (p : Nat) (x : Bool) (i : Nat) : (s.setA p x).R i = s.R i := by unfold setA R; split <;> split <;> rfl
theorem setR_A (s : Sd) (c : Nat) (x : Bool) (i : Nat) : (s.setR c x).A i = s.A i := by unfold setR A; split <;> split <;> rfl
theorem setR_c (s : Sd) (c : Nat) (x : Bool) : (s.setR c x).c = s.c := by unfold setR; split <;> rfl
theorem setR_L (s : Sd) (c : Nat) (x : Bool) (i : Nat) : (s.setR c x).L i = s.L i := by unfold setR L; split <;> split <;> rfl
theorem setR_R (s : Sd) (c : Nat) (x : Bool) (hc : c < 2) (i : Nat) (hi : i < 2) : (s.setR c x).R i = if i = c then x else s.R i := by
  match c, hc, i, hi with
  | 0, _, 0, _ | 0, _, 1, _ | 1, _, 0, _ | 1, _, 1, _ => rfl
theorem setL_A (s : Sd) (c : Nat) (x : Fin 4) (i : Nat) : (s.setL c x).A i = s.A i := by unfold setL A; split <;> split <;> rfl
theorem setL_c (s : Sd) (c : Nat) (x : Fin 4) : (s.setL c x).c = s.c := by unfold setL; split <;> rfl
theorem setL_R (s : Sd) (c : Nat) (x : Fin 4) (i : Nat) : (s.setL c x).R i = s.R i := by unfold setL R; split <;> split <;> rfl
theorem setL_L (s : Sd) (c : Nat) (x : Fin 4) (hc : c < 2) (i : Nat) (hi : i < 2) : (s.setL c x).L i = if i = c then x else s.L i := by
  match c, hc, i, hi with
  | 0, _, 0, _ | 0, _, 1, _ | 1, _, 0, _ | 1, _, 1, _ => rfl
theorem hit_setA (s : Sd) (p : Nat) (x : Bool) (i : Nat) (q : Int) : (s.setA p x).hit i q = s.hit i q := by unfold hit; rw [setA_L, setA_R]
theorem wh_setA (s : Sd) (p : Nat) (x : Bool) (q : Int) : (s.setA p x).wh q = s.wh q := by unfold wh; rw [hit_setA, hit_setA, setA_two]
theorem wh_or (s : Sd) (p : Int) : (s.wh p = -1 ∧ ∀ i, i < s.c → s.hit i p = false) ∨ (∃ i, i < s.c ∧ s.wh p = (i : Int) ∧ s.hit i p = true ∧ ∀ j, j < i → s.hit j p = false) := by
  have hc : s.c = if s.two = true then 2 else 1 := rfl
  unfold wh
  cases h0 : s.hit 0 p
  · cases ht : s.two
    · left
      rw [ht] at hc
      refine ⟨by simp, fun i hi => ?_⟩
      rw [show i = 0 by simp at hc; omega]; exact h0
    · rw [ht] at hc
      simp at hc
      cases h1 : s.hit 1 p
      · left
        refine ⟨by simp, fun i hi => ?_⟩
        rcases (show i = 0 ∨ i = 1 by omega) with e | e <;> rw [e] <;> assumption
      · right
        exact ⟨1, by omega, by simp, h1, fun j hj => by rw [show j = 0 by omega]; exact h0⟩
  · right
    exact ⟨0, by have := s.c_ge; omega, by simp, h0, fun j hj => by omega⟩
theorem nth_lt (s : Sd) (c k : Nat) : s.nth c k < 4 := Nat.mod_lt _ (by decide)
theorem step_no (s : Sd) (c : Nat) (h : ∀ k, 1 ≤ k → k < 5 → s.ok c k = false) : s.step c = 0 := by
  unfold step; rw [h 1 (by omega) (by omega), h 2 (by omega) (by omega), h 3 (by omega) (by omega), h 4 (by omega) (by omega)]; rfl
theorem step_at (s : Sd) (c k : Nat) (k1 : 1 ≤ k) (k5 : k < 5) (hn : ∀ j, 1 ≤ j → j < k → s.ok c j = false) (h : s.ok c k = true) : s.step c = k := by
  unfold step
  match k, k1, k5 with
  | 1, _, _ => rw [if_pos h]
  | 2, _, _ => rw [hn 1 (by omega) (by omega), if_neg (by decide), if_pos h]
  | 3, _, _ => rw [hn 1 (by omega) (by omega), hn 2 (by omega) (by omega), if_neg (by decide), if_neg (by decide), if_pos h]
  | 4, _, _ => rw [hn 1 (by omega) (by omega), hn 2 (by omega) (by omega), hn 3 (by omega) (by omega), if_neg (by decide), if_neg (by decide), if_neg (by decide), if_pos h]
theorem step_le (s : Sd) (c : Nat) : s.step c ≤ 4 := by unfold step; split <;> (try split) <;> (try split) <;> (try split) <;> omega
end Sd

/-- The program's: block b, its seats in block g. -/
structure SdAt (w : World) (b g : Nat) (s : Sd) : Prop where
  row : w.rowIs b 43 5 (s.cell g)
  seats : w.rowIs g 45 (s.c * 2) s.seat
namespace SdAt
variable {w w' : World} {b g : Nat} {s : Sd}
theorem touch {S : Nat → Prop} (h : SdAt w b g s) (t : Touch S w w') (hb : ¬ S b) (hg : ¬ S g) : SdAt w' b g s := ⟨t.row h.row hb, t.row h.seats hg⟩
theorem nil (h : SdAt w b g s) (t : Touch Nil w w') : SdAt w' b g s := h.touch t id id
theorem ne (h : SdAt w b g s) : b ≠ g := rowIs_ne h.row h.seats (by decide)
theorem ltB (h : SdAt w b g s) : b < w.heap.size := h.row.lt
theorem ltG (h : SdAt w b g s) : g < w.heap.size := h.seats.lt
theorem aC (h : SdAt w b g s) (i : Nat) (hi : i < 4) : w.cell? ⟨b, i, none⟩ = some (.bool (s.A i)) := by
  rw [h.row.cell (i := i) (by omega)]; unfold Sd.cell; rw [if_pos hi]
theorem sC (h : SdAt w b g s) : w.cell? ⟨b, 4, none⟩ = some (.slice (some ⟨g, 0, none⟩) s.c s.c) := by
  rw [h.row.cell (i := 4) (by omega)]; rfl
theorem lC (h : SdAt w b g s) (i : Nat) (hi : i < s.c) : w.cell? ⟨g, i * 2, none⟩ = some (.int .i64 (s.L i).1) := by
  rw [h.seats.cell (i := i * 2) (by omega), s.seat_l]
theorem rC (h : SdAt w b g s) (i : Nat) (hi : i < s.c) : w.cell? ⟨g, i * 2 + 1, none⟩ = some (.bool (s.R i)) := by
  rw [h.seats.cell (i := i * 2 + 1) (by omega), s.seat_r]
theorem fzB (h : SdAt w b g s) (i : Nat) : w.frozen? ⟨b, i, none⟩ = false := h.row.frozen i
theorem fzG (h : SdAt w b g s) (i : Nat) : w.frozen? ⟨g, i, none⟩ = false := h.seats.frozen i
theorem setA (h : SdAt w b g s) (p : Nat) (hp : p < 4) (x : Bool) : SdAt (w.setCell ⟨b, p, none⟩ (.bool x)) b g (s.setA p x) :=
  ⟨(h.row.set p _).congr fun i hi => by
    unfold Sd.cell
    by_cases e : i < 4
    · rw [if_pos e, s.setA_A p x hp i e]
      by_cases q : i = p
      · rw [if_pos q, if_pos e, if_pos q]
      · rw [if_neg q, if_pos e, if_neg q]
    · rw [if_neg e, if_neg (by omega), if_neg e, s.setA_c], by
    rw [s.setA_c]
    exact (h.seats.setOther (a := ⟨b, p, none⟩) (fun e => h.ne e.symm) _).congr fun i hi => by unfold Sd.seat; rw [s.setA_L, s.setA_R]⟩
theorem setR (h : SdAt w b g s) (c : Nat) (hc : c < s.c) (x : Bool) : SdAt (w.setCell ⟨g, c * 2 + 1, none⟩ (.bool x)) b g (s.setR c x) :=
  ⟨(h.row.setOther (a := ⟨g, c * 2 + 1, none⟩) h.ne _).congr fun i hi => by unfold Sd.cell; rw [s.setR_A, s.setR_c], by
    rw [s.setR_c]
    refine (h.seats.set (c * 2 + 1) _).congr fun i hi => ?_
    have c2 := s.c_le
    unfold Sd.seat
    rw [s.setR_L]
    by_cases q : i = c * 2 + 1
    · subst q
      rw [if_pos rfl, if_neg (by omega), s.setR_R c x (by omega) _ (by omega), if_pos (by omega)]
    · rw [if_neg q]
      by_cases e : i % 2 = 0
      · rw [if_pos e, if_pos e]
      · rw [if_neg e, if_neg e, s.setR_R c x (by omega) _ (by omega), if_neg (by omega)]⟩
theorem setL (h : SdAt w b g s) (c : Nat) (hc : c < s.c) (x : Fin 4) : SdAt (w.setCell ⟨g, c * 2, none⟩ (.int .i64 x.1)) b g (s.setL c x) :=
  ⟨(h.row.setOther (a := ⟨g, c * 2, none⟩) h.ne _).congr fun i hi => by unfold Sd.cell; rw [s.setL_A, s.setL_c], by
    rw [s.setL_c]
    refine (h.seats.set (c * 2) _).congr fun i hi => ?_
    have c2 := s.c_le
    unfold Sd.seat
    rw [s.setL_R]
    by_cases q : i = c * 2
    · subst q
      rw [if_pos rfl, if_pos (by omega), s.setL_L c x (by omega) _ (by omega), if_pos (by omega)]
    · rw [if_neg q]
      by_cases e : i % 2 = 0
      · rw [if_pos e, if_pos e, s.setL_L c x (by omega) _ (by omega), if_neg (by omega)]
      · rw [if_neg e, if_neg e]⟩
end SdAt
/-- What its calls turn. -/
abbrev SdB (b g : Nat) : Nat → Prop := fun k => k = b ∨ k = g
end Go.Proofs.Ytlhppmhacdoilaa

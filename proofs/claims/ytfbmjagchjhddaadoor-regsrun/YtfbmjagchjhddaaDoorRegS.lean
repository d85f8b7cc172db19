/-
  Registers, as plain functions: nothing of any program.
-/
import Derived.Test.YtfbmjagchjhddaaDoorInsnRow
namespace Go.Proofs.YtfbmjagchjhddaaDoor

/-- Registers, and the place of the next instruction. -/
structure RS where
  r : Nat → Int
  pc : Int

/-- Register i (0 where there is none). -/
def RS.reg (s : RS) (i : Int) : Int := if 0 ≤ i ∧ i < 8 then s.r i.toNat else 0
/-- Register i made v. -/
def RS.set (s : RS) (i v : Int) : RS := if 0 ≤ i ∧ i < 8 then ⟨fun j => if j = i.toNat then v else s.r j, s.pc⟩ else s
/-- On to a place. -/
def RS.go (s : RS) (n : Nat) (pc : Int) : RS := ⟨s.r, if (n : Int) ≤ pc then 0 else pc⟩
/-- One further. -/
def RS.on (s : RS) (n : Nat) : RS := if (n : Int) ≤ s.pc then s.go n 0 else s.go n (s.pc + 1)
/-- The next instruction. -/
def nextP (l : List Ins) (pc : Int) : Option Ins := if pc < 0 then none else (l[pc.toNat]?).bind fun x => if okP x = true then some x else none
/-- Sums in words. -/
def addW (a b : Int) : Int := (a + b) % 18446744073709551616
/-- A plain instruction done. -/
def plainX (n : Nat) (s : RS) (x : Ins) : Option RS :=
  if x.op = 1 then some ((s.set x.a x.n).on n) else if x.op = 2 then some ((s.set x.a (addW (s.reg x.a) (s.reg x.b))).on n)
  else if x.op = 6 then some (if s.reg x.a ≠ 0 then s.go n x.n else s.on n) else none
def plainP (l : List Ins) (s : RS) : Option RS := (nextP l s.pc).bind (plainX l.length s)
def doneP (n : Nat) (s : RS) (x : Ins) (v : Int) : RS := (if x.op = 3 then s.set x.a v else if x.op = 7 then s.set 0 v else s).on n
def faultP (n : Nat) (s : RS) (c : Int) : RS := (s.set 7 (100 + c)).on n
/-- Words they are. -/
def RS.words (s : RS) : Prop := ∀ j, 0 ≤ s.r j ∧ s.r j < 18446744073709551616

/-- A state as the walks have it. -/
def stV (s : RS) (a : Option Addr) (n c : Nat) : Value :=
  .agg #[.int .u64 (s.r 0), .int .u64 (s.r 1), .int .u64 (s.r 2), .int .u64 (s.r 3), .int .u64 (s.r 4), .int .u64 (s.r 5), .int .u64 (s.r 6), .int .u64 (s.r 7), .slice a n c, .int .i64 s.pc]
def RS.zero : RS := ⟨fun _ => 0, 0⟩

theorem eight {i : Int} (h0 : 0 ≤ i) (h8 : i < 8) : i = 0 ∨ i = 1 ∨ i = 2 ∨ i = 3 ∨ i = 4 ∨ i = 5 ∨ i = 6 ∨ i = 7 := by omega
theorem next_ok {l : List Ins} {pc : Int} {x : Ins} (h : nextP l pc = some x) : 0 ≤ pc ∧ pc < l.length ∧ l[pc.toNat]? = some x ∧ okP x = true := by
  unfold nextP at h
  split at h
  · cases h
  · cases hx : l[pc.toNat]? with
    | none => rw [hx] at h; cases h
    | some y =>
      rw [hx] at h
      simp only [Option.bind_some] at h
      split at h
      · cases h
        have := (List.getElem?_eq_some_iff.1 hx).1
        exact ⟨by omega, by omega, rfl, by assumption⟩
      · cases h
theorem ok_op {x : Ins} (h : okP x = true) : 1 ≤ x.op ∧ x.op ≤ 7 := by
  simp only [okP, Bool.and_eq_true, decide_eq_true_eq] at h
  exact ⟨h.1.1.1.1.1, h.1.1.1.1.2⟩
theorem ok_ab {x : Ins} (h : okP x = true) : (0 ≤ x.a ∧ x.a < 8) ∧ (0 ≤ x.b ∧ x.b < 8) ∧ 0 ≤ x.n ∧ x.n ≤ 65535 := by
  obtain ⟨op, a, b, n⟩ := x
  have ho := ok_op h
  simp only at ho
  rcases (by omega : op = 1 ∨ op = 2 ∨ op = 3 ∨ op = 4 ∨ op = 5 ∨ op = 6 ∨ op = 7) with rfl | rfl | rfl | rfl | rfl | rfl | rfl <;> (simp [okP, shape, fitP] at h ⊢; omega)
end Go.Proofs.YtfbmjagchjhddaaDoor

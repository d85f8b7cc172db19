/-
  What insn's table of ops holds ('Sh'), as the walks want it; an instruction as a value.
-/
import Derived.Test.YtpnegpcnmmaclaaDoorCore
import Derived.Test.YtpnegpcnmmaclaaDoorInsnS
namespace Go.Proofs.YtpnegpcnmmaclaaDoor
open Go.RowKit

/-- The rows of ops, cell by cell. -/
def shapeCells : Array Value := #[
  .string ⟨#[]⟩, .bool false, .bool false, .int .i64 0, .int .i64 0,
  .string ⟨#[115, 101, 116]⟩, .bool true, .bool false, .int .i64 0, .int .i64 65535,
  .string ⟨#[97, 100, 100]⟩, .bool true, .bool true, .int .i64 0, .int .i64 0,
  .string ⟨#[108, 111, 97, 100]⟩, .bool true, .bool true, .int .i64 0, .int .i64 65535,
  .string ⟨#[115, 116, 111, 114, 101]⟩, .bool true, .bool true, .int .i64 0, .int .i64 65535,
  .string ⟨#[99, 108, 101, 97, 114]⟩, .bool false, .bool true, .int .i64 0, .int .i64 65535,
  .string ⟨#[106, 117, 109, 112]⟩, .bool true, .bool false, .int .i64 0, .int .i64 23,
  .string ⟨#[99, 97, 108, 108]⟩, .bool false, .bool false, .int .i64 1, .int .i64 9]

structure Sh (w : World) : Prop where
  sh : ∃ t fr, w.heap[0]? = some (.cells shapeCells t fr)
theorem lt_of_block {w : World} {k : Nat} {o : Obj} (h : w.heap[k]? = some o) : k < w.heap.size := by
  cases Nat.lt_or_ge k w.heap.size with
  | inl h => exact h
  | inr h' => rw [Array.getElem?_eq_none h'] at h; cases h
theorem lt_of_cell {w : World} {p : Addr} {v : Value} (h : w.cell? p = some v) : p.block < w.heap.size := World.block_lt_of_cell? w p h
theorem Sh.later {w w' : World} (h : Sh w) (b : Below w.heap.size w w') : Sh w' := by
  obtain ⟨t, fr, h⟩ := h.sh
  exact ⟨t, fr, (b.block _ (lt_of_block h)).trans h⟩
theorem Sh.touch {S : Nat → Prop} {w w' : World} (h : Sh w) (b : Touch S w w') (hs : ¬ S 0) : Sh w' := by
  obtain ⟨t, fr, h⟩ := h.sh
  exact ⟨t, fr, (b.block _ (lt_of_block h) hs).trans h⟩
theorem Sh.size {w : World} (h : Sh w) : 1 ≤ w.heap.size := by
  obtain ⟨t, fr, h⟩ := h.sh
  have := lt_of_block h
  omega
theorem Sh.shCell {w : World} (h : Sh w) (i : Nat) : w.cell? ⟨0, i, none⟩ = shapeCells[i]? := by
  obtain ⟨t0, f0, h0⟩ := h.sh
  simp [World.cell?, h0]
theorem Sh.alloc {w : World} (h : Sh w) (o : Obj) : Sh (w.alloc o) := h.later ((Below.refl _ w).alloc (Nat.le_refl _) o)
theorem Sh.drew {w : World} (h : Sh w) : Sh w.drew := h.later (Below.refl _ w).drew
theorem Sh.shAt {w : World} (h : Sh w) (i : Nat) {v : Value} (hv : shapeCells[i]? = some v) (o : Obj) : (w.alloc o).cell? ⟨0, i, none⟩ = some v := ((h.alloc o).shCell i).trans hv
theorem Sh.row0 {w : World} (h : Sh w) : (∀ o, (w.alloc o).cell? ⟨0, 0, none⟩ = some (.string ⟨#[]⟩)) ∧ (∀ o, (w.alloc o).cell? ⟨0, 1, none⟩ = some (.bool false)) ∧ (∀ o, (w.alloc o).cell? ⟨0, 2, none⟩ = some (.bool false)) ∧ (∀ o, (w.alloc o).cell? ⟨0, 3, none⟩ = some (.int .i64 0)) ∧ (∀ o, (w.alloc o).cell? ⟨0, 4, none⟩ = some (.int .i64 0)) :=
  ⟨h.shAt 0 rfl, h.shAt 1 rfl, h.shAt 2 rfl, h.shAt 3 rfl, h.shAt 4 rfl⟩
theorem Sh.row1 {w : World} (h : Sh w) : (∀ o, (w.alloc o).cell? ⟨0, 5, none⟩ = some (.string ⟨#[115, 101, 116]⟩)) ∧ (∀ o, (w.alloc o).cell? ⟨0, 6, none⟩ = some (.bool true)) ∧ (∀ o, (w.alloc o).cell? ⟨0, 7, none⟩ = some (.bool false)) ∧ (∀ o, (w.alloc o).cell? ⟨0, 8, none⟩ = some (.int .i64 0)) ∧ (∀ o, (w.alloc o).cell? ⟨0, 9, none⟩ = some (.int .i64 65535)) :=
  ⟨h.shAt 5 rfl, h.shAt 6 rfl, h.shAt 7 rfl, h.shAt 8 rfl, h.shAt 9 rfl⟩
theorem Sh.row2 {w : World} (h : Sh w) : (∀ o, (w.alloc o).cell? ⟨0, 10, none⟩ = some (.string ⟨#[97, 100, 100]⟩)) ∧ (∀ o, (w.alloc o).cell? ⟨0, 11, none⟩ = some (.bool true)) ∧ (∀ o, (w.alloc o).cell? ⟨0, 12, none⟩ = some (.bool true)) ∧ (∀ o, (w.alloc o).cell? ⟨0, 13, none⟩ = some (.int .i64 0)) ∧ (∀ o, (w.alloc o).cell? ⟨0, 14, none⟩ = some (.int .i64 0)) :=
  ⟨h.shAt 10 rfl, h.shAt 11 rfl, h.shAt 12 rfl, h.shAt 13 rfl, h.shAt 14 rfl⟩
theorem Sh.row3 {w : World} (h : Sh w) : (∀ o, (w.alloc o).cell? ⟨0, 15, none⟩ = some (.string ⟨#[108, 111, 97, 100]⟩)) ∧ (∀ o, (w.alloc o).cell? ⟨0, 16, none⟩ = some (.bool true)) ∧ (∀ o, (w.alloc o).cell? ⟨0, 17, none⟩ = some (.bool true)) ∧ (∀ o, (w.alloc o).cell? ⟨0, 18, none⟩ = some (.int .i64 0)) ∧ (∀ o, (w.alloc o).cell? ⟨0, 19, none⟩ = some (.int .i64 65535)) :=
  ⟨h.shAt 15 rfl, h.shAt 16 rfl, h.shAt 17 rfl, h.shAt 18 rfl, h.shAt 19 rfl⟩
theorem Sh.row4 {w : World} (h : Sh w) : (∀ o, (w.alloc o).cell? ⟨0, 20, none⟩ = some (.string ⟨#[115, 116, 111, 114, 101]⟩)) ∧ (∀ o, (w.alloc o).cell? ⟨0, 21, none⟩ = some (.bool true)) ∧ (∀ o, (w.alloc o).cell? ⟨0, 22, none⟩ = some (.bool true)) ∧ (∀ o, (w.alloc o).cell? ⟨0, 23, none⟩ = some (.int .i64 0)) ∧ (∀ o, (w.alloc o).cell? ⟨0, 24, none⟩ = some (.int .i64 65535)) :=
  ⟨h.shAt 20 rfl, h.shAt 21 rfl, h.shAt 22 rfl, h.shAt 23 rfl, h.shAt 24 rfl⟩
theorem Sh.row5 {w : World} (h : Sh w) : (∀ o, (w.alloc o).cell? ⟨0, 25, none⟩ = some (.string ⟨#[99, 108, 101, 97, 114]⟩)) ∧ (∀ o, (w.alloc o).cell? ⟨0, 26, none⟩ = some (.bool false)) ∧ (∀ o, (w.alloc o).cell? ⟨0, 27, none⟩ = some (.bool true)) ∧ (∀ o, (w.alloc o).cell? ⟨0, 28, none⟩ = some (.int .i64 0)) ∧ (∀ o, (w.alloc o).cell? ⟨0, 29, none⟩ = some (.int .i64 65535)) :=
  ⟨h.shAt 25 rfl, h.shAt 26 rfl, h.shAt 27 rfl, h.shAt 28 rfl, h.shAt 29 rfl⟩
theorem Sh.row6 {w : World} (h : Sh w) : (∀ o, (w.alloc o).cell? ⟨0, 30, none⟩ = some (.string ⟨#[106, 117, 109, 112]⟩)) ∧ (∀ o, (w.alloc o).cell? ⟨0, 31, none⟩ = some (.bool true)) ∧ (∀ o, (w.alloc o).cell? ⟨0, 32, none⟩ = some (.bool false)) ∧ (∀ o, (w.alloc o).cell? ⟨0, 33, none⟩ = some (.int .i64 0)) ∧ (∀ o, (w.alloc o).cell? ⟨0, 34, none⟩ = some (.int .i64 23)) :=
  ⟨h.shAt 30 rfl, h.shAt 31 rfl, h.shAt 32 rfl, h.shAt 33 rfl, h.shAt 34 rfl⟩
theorem Sh.row7 {w : World} (h : Sh w) : (∀ o, (w.alloc o).cell? ⟨0, 35, none⟩ = some (.string ⟨#[99, 97, 108, 108]⟩)) ∧ (∀ o, (w.alloc o).cell? ⟨0, 36, none⟩ = some (.bool false)) ∧ (∀ o, (w.alloc o).cell? ⟨0, 37, none⟩ = some (.bool false)) ∧ (∀ o, (w.alloc o).cell? ⟨0, 38, none⟩ = some (.int .i64 1)) ∧ (∀ o, (w.alloc o).cell? ⟨0, 39, none⟩ = some (.int .i64 9)) :=
  ⟨h.shAt 35 rfl, h.shAt 36 rfl, h.shAt 37 rfl, h.shAt 38 rfl, h.shAt 39 rfl⟩

/-- An instruction as the walks have it. -/
def insV (x : Ins) : Value := .agg #[.int .i64 x.op, .int .i64 x.a, .int .i64 x.b, .int .i64 x.n]
/-- Its numbers are ints. -/
def Ins.fits (x : Ins) : Prop := (-9223372036854775808 ≤ x.op ∧ x.op ≤ 9223372036854775807) ∧ (-9223372036854775808 ≤ x.a ∧ x.a ≤ 9223372036854775807) ∧ (-9223372036854775808 ≤ x.b ∧ x.b ≤ 9223372036854775807) ∧ (-9223372036854775808 ≤ x.n ∧ x.n ≤ 9223372036854775807)

theorem seven {op : Int} (h1 : 1 ≤ op) (h7 : op ≤ 7) : op = 1 ∨ op = 2 ∨ op = 3 ∨ op = 4 ∨ op = 5 ∨ op = 6 ∨ op = 7 := by omega
end Go.Proofs.YtpnegpcnmmaclaaDoor

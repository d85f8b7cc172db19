/-
  What the package-level variables hold ('Vs'), as the walks want it; it stays while nothing that was there is turned.
-/
import Derived.Test.YtpnegpcnmmaclaaDoorShelf
import Derived.Test.YtpnegpcnmmaclaaDoorInsnSh
import Derived.Shelf.Strconv.ErrVarAll
namespace Go.Proofs.YtpnegpcnmmaclaaDoor
open Go.RowKit

def callCells : Array Value := #[.string ⟨#[]⟩, .string ⟨#[109, 97, 112]⟩, .string ⟨#[117, 110, 109, 97, 112]⟩, .string ⟨#[112, 114, 111, 116, 101, 99, 116]⟩, .string ⟨#[111, 117, 116]⟩, .string ⟨#[102, 111, 114, 107]⟩,
  .string ⟨#[101, 120, 105, 116]⟩, .string ⟨#[121, 105, 101, 108, 100]⟩, .string ⟨#[115, 101, 110, 100]⟩, .string ⟨#[114, 101, 99, 118]⟩]

structure Vs (w : World) : Prop where
  sh : ∃ t fr, w.heap[0]? = some (.cells shapeCells t fr)
  cl : ∃ t fr, w.heap[1]? = some (.cells callCells t fr)
  tab : Lib.TabIs Tryd.prog w "internal/strconv.uint64pow10" .u64 Lib.pow10Tab
  es : ∃ te pe, w.cell? ⟨4, 0, none⟩ = some (.iface te pe)
  er : ∃ te pe, w.cell? ⟨5, 0, none⟩ = some (.iface te pe)

theorem Vs.toSh {w : World} (h : Vs w) : Sh w := ⟨h.sh⟩

theorem gPow : Tryd.prog.globalNamed "internal/strconv.uint64pow10" = some 3 := by kernel_rfl

theorem Vs.blocks {w w' : World} (h : Vs w) (hb : ∀ k v, w.heap[k]? = some v → k < 6 → w'.heap[k]? = some v) : Vs w' := by
  obtain ⟨⟨t0, f0, h0⟩, ⟨t1, f1, h1⟩, ht, ⟨a, b, hes⟩, ⟨c, d, her⟩⟩ := h
  refine ⟨⟨t0, f0, hb _ _ h0 (by decide)⟩, ⟨t1, f1, hb _ _ h1 (by decide)⟩, ?_, ⟨a, b, ?_⟩, ⟨c, d, ?_⟩⟩
  · unfold Lib.TabIs World.var? at ht ⊢
    rw [gPow] at ht ⊢
    simp only [Option.bind_some] at ht ⊢
    cases hg : w.heap[3]? with
    | none => rw [hg] at ht; cases ht
    | some o => rw [hg] at ht; rw [hb _ _ hg (by decide)]; exact ht
  · cases hg : w.heap[4]? with
    | none => simp [World.cell?, hg] at hes
    | some o => rw [← hes]; exact World.cell?_of_block (a := ⟨4, 0, none⟩) ((hb _ _ hg (by decide)).trans hg.symm)
  · cases hg : w.heap[5]? with
    | none => simp [World.cell?, hg] at her
    | some o => rw [← her]; exact World.cell?_of_block (a := ⟨5, 0, none⟩) ((hb _ _ hg (by decide)).trans hg.symm)

theorem Vs.later {w w' : World} (h : Vs w) (b : Below w.heap.size w w') : Vs w' :=
  h.blocks fun k v hk _ => by
    have : k < w.heap.size := by
      cases Nat.lt_or_ge k w.heap.size with
      | inl h => exact h
      | inr h => rw [Array.getElem?_eq_none h] at hk; cases hk
    rw [b.block k this]; exact hk
theorem Vs.size {w : World} (h : Vs w) : 6 ≤ w.heap.size := by
  obtain ⟨⟨t0, f0, h0⟩, ⟨t1, f1, h1⟩, ht, ⟨a, b, hes⟩, ⟨c, d, her⟩⟩ := h
  have l0 := lt_of_block h0
  have l1 := lt_of_block h1
  have l3 : 4 < w.heap.size := lt_of_cell hes
  have l4 : 5 < w.heap.size := lt_of_cell her
  have l2 : 3 < w.heap.size := by
    unfold Lib.TabIs World.var? at ht
    rw [gPow] at ht
    simp only [Option.bind_some] at ht
    cases hg : w.heap[3]? with
    | none => rw [hg] at ht; cases ht
    | some o => exact lt_of_block hg
  omega
/-- A store into a block of the call's own. -/
theorem Vs.set {w : World} (h : Vs w) {p : Addr} (hp : 6 ≤ p.block) (v : Value) : Vs (w.setCell p v) :=
  h.blocks fun k u hk hk' => by rw [Below.heap_setCell _ _ _ _ (by omega)]; exact hk

theorem Vs.shCell {w : World} (h : Vs w) (i : Nat) : w.cell? ⟨0, i, none⟩ = shapeCells[i]? := by
  obtain ⟨t0, f0, h0⟩ := h.sh
  simp [World.cell?, h0]
theorem Vs.clCell {w : World} (h : Vs w) (i : Nat) : w.cell? ⟨1, i, none⟩ = callCells[i]? := by
  obtain ⟨t0, f0, h0⟩ := h.cl
  simp [World.cell?, h0]

theorem Vs.alloc {w : World} (h : Vs w) (o : Obj) : Vs (w.alloc o) := h.later ((Below.refl _ w).alloc (Nat.le_refl _) o)
theorem Vs.drew {w : World} (h : Vs w) : Vs w.drew := h.later (Below.refl _ w).drew
theorem Vs.shAt {w : World} (h : Vs w) (i : Nat) {v : Value} (hv : shapeCells[i]? = some v) (o : Obj) : (w.alloc o).cell? ⟨0, i, none⟩ = some v := ((h.alloc o).shCell i).trans hv
theorem Vs.clAt {w : World} (h : Vs w) (i : Nat) {v : Value} (hv : callCells[i]? = some v) (o o' : Obj) : ((w.alloc o).alloc o').cell? ⟨1, i, none⟩ = some v := (((h.alloc o).alloc o').clCell i).trans hv

theorem Vs.row0 {w : World} (h : Vs w) : (∀ o, (w.alloc o).cell? ⟨0, 0, none⟩ = some (.string ⟨#[]⟩)) ∧ (∀ o, (w.alloc o).cell? ⟨0, 1, none⟩ = some (.bool false)) ∧ (∀ o, (w.alloc o).cell? ⟨0, 2, none⟩ = some (.bool false)) ∧ (∀ o, (w.alloc o).cell? ⟨0, 3, none⟩ = some (.int .i64 0)) ∧ (∀ o, (w.alloc o).cell? ⟨0, 4, none⟩ = some (.int .i64 0)) :=
  ⟨h.shAt 0 rfl, h.shAt 1 rfl, h.shAt 2 rfl, h.shAt 3 rfl, h.shAt 4 rfl⟩
theorem Vs.row1 {w : World} (h : Vs w) : (∀ o, (w.alloc o).cell? ⟨0, 5, none⟩ = some (.string ⟨#[115, 101, 116]⟩)) ∧ (∀ o, (w.alloc o).cell? ⟨0, 6, none⟩ = some (.bool true)) ∧ (∀ o, (w.alloc o).cell? ⟨0, 7, none⟩ = some (.bool false)) ∧ (∀ o, (w.alloc o).cell? ⟨0, 8, none⟩ = some (.int .i64 0)) ∧ (∀ o, (w.alloc o).cell? ⟨0, 9, none⟩ = some (.int .i64 65535)) :=
  ⟨h.shAt 5 rfl, h.shAt 6 rfl, h.shAt 7 rfl, h.shAt 8 rfl, h.shAt 9 rfl⟩
theorem Vs.row2 {w : World} (h : Vs w) : (∀ o, (w.alloc o).cell? ⟨0, 10, none⟩ = some (.string ⟨#[97, 100, 100]⟩)) ∧ (∀ o, (w.alloc o).cell? ⟨0, 11, none⟩ = some (.bool true)) ∧ (∀ o, (w.alloc o).cell? ⟨0, 12, none⟩ = some (.bool true)) ∧ (∀ o, (w.alloc o).cell? ⟨0, 13, none⟩ = some (.int .i64 0)) ∧ (∀ o, (w.alloc o).cell? ⟨0, 14, none⟩ = some (.int .i64 0)) :=
  ⟨h.shAt 10 rfl, h.shAt 11 rfl, h.shAt 12 rfl, h.shAt 13 rfl, h.shAt 14 rfl⟩
theorem Vs.row3 {w : World} (h : Vs w) : (∀ o, (w.alloc o).cell? ⟨0, 15, none⟩ = some (.string ⟨#[108, 111, 97, 100]⟩)) ∧ (∀ o, (w.alloc o).cell? ⟨0, 16, none⟩ = some (.bool true)) ∧ (∀ o, (w.alloc o).cell? ⟨0, 17, none⟩ = some (.bool true)) ∧ (∀ o, (w.alloc o).cell? ⟨0, 18, none⟩ = some (.int .i64 0)) ∧ (∀ o, (w.alloc o).cell? ⟨0, 19, none⟩ = some (.int .i64 65535)) :=
  ⟨h.shAt 15 rfl, h.shAt 16 rfl, h.shAt 17 rfl, h.shAt 18 rfl, h.shAt 19 rfl⟩
theorem Vs.row4 {w : World} (h : Vs w) : (∀ o, (w.alloc o).cell? ⟨0, 20, none⟩ = some (.string ⟨#[115, 116, 111, 114, 101]⟩)) ∧ (∀ o, (w.alloc o).cell? ⟨0, 21, none⟩ = some (.bool true)) ∧ (∀ o, (w.alloc o).cell? ⟨0, 22, none⟩ = some (.bool true)) ∧ (∀ o, (w.alloc o).cell? ⟨0, 23, none⟩ = some (.int .i64 0)) ∧ (∀ o, (w.alloc o).cell? ⟨0, 24, none⟩ = some (.int .i64 65535)) :=
  ⟨h.shAt 20 rfl, h.shAt 21 rfl, h.shAt 22 rfl, h.shAt 23 rfl, h.shAt 24 rfl⟩
theorem Vs.row5 {w : World} (h : Vs w) : (∀ o, (w.alloc o).cell? ⟨0, 25, none⟩ = some (.string ⟨#[99, 108, 101, 97, 114]⟩)) ∧ (∀ o, (w.alloc o).cell? ⟨0, 26, none⟩ = some (.bool false)) ∧ (∀ o, (w.alloc o).cell? ⟨0, 27, none⟩ = some (.bool true)) ∧ (∀ o, (w.alloc o).cell? ⟨0, 28, none⟩ = some (.int .i64 0)) ∧ (∀ o, (w.alloc o).cell? ⟨0, 29, none⟩ = some (.int .i64 65535)) :=
  ⟨h.shAt 25 rfl, h.shAt 26 rfl, h.shAt 27 rfl, h.shAt 28 rfl, h.shAt 29 rfl⟩
theorem Vs.row6 {w : World} (h : Vs w) : (∀ o, (w.alloc o).cell? ⟨0, 30, none⟩ = some (.string ⟨#[106, 117, 109, 112]⟩)) ∧ (∀ o, (w.alloc o).cell? ⟨0, 31, none⟩ = some (.bool true)) ∧ (∀ o, (w.alloc o).cell? ⟨0, 32, none⟩ = some (.bool false)) ∧ (∀ o, (w.alloc o).cell? ⟨0, 33, none⟩ = some (.int .i64 0)) ∧ (∀ o, (w.alloc o).cell? ⟨0, 34, none⟩ = some (.int .i64 23)) :=
  ⟨h.shAt 30 rfl, h.shAt 31 rfl, h.shAt 32 rfl, h.shAt 33 rfl, h.shAt 34 rfl⟩
theorem Vs.row7 {w : World} (h : Vs w) : (∀ o, (w.alloc o).cell? ⟨0, 35, none⟩ = some (.string ⟨#[99, 97, 108, 108]⟩)) ∧ (∀ o, (w.alloc o).cell? ⟨0, 36, none⟩ = some (.bool false)) ∧ (∀ o, (w.alloc o).cell? ⟨0, 37, none⟩ = some (.bool false)) ∧ (∀ o, (w.alloc o).cell? ⟨0, 38, none⟩ = some (.int .i64 1)) ∧ (∀ o, (w.alloc o).cell? ⟨0, 39, none⟩ = some (.int .i64 9)) :=
  ⟨h.shAt 35 rfl, h.shAt 36 rfl, h.shAt 37 rfl, h.shAt 38 rfl, h.shAt 39 rfl⟩

end Go.Proofs.YtpnegpcnmmaclaaDoor

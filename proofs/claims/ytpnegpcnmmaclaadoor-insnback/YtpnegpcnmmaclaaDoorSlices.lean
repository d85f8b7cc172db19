/-
  A list of numbers that came in, and maps of the call's own: words on them.
-/
import Derived.Test.YtpnegpcnmmaclaaDoorCore
import Derived.Maps.OwnOps
import Derived.Maps.Views
import Derived.OpenShut
namespace Go.Proofs.YtpnegpcnmmaclaaDoor
open Go.RowKit Go.Maps

/-- As the shell of a proof has it: a slice of integers that came in. -/
def Row (k : IntKind) (w : World) (a : Option Addr) (len cap : Nat) (zs : List Int) : Prop :=
  (a = none ∧ len = 0 ∧ cap = 0 ∧ zs = []) ∨
  ∃ x, a = some x ∧ len ≤ cap ∧ cap ≤ maxLen ∧ zs.length = cap ∧ (∀ i, i < zs.length → w.cell? (x.add i) = some (.int k (zs.getD i 0))) ∧ ∀ n ∈ zs, (Lit.int k n).wf = true

/-- .. as a walk wants it: empty, or at a plain address. -/
def Plain (k : IntKind) (w : World) (a : Option Addr) (len : Nat) (zs : List Int) : Prop :=
  len ≤ maxLen ∧ (len = 0 ∨ ∃ b off, a = some ⟨b, off, none⟩ ∧ b < w.heap.size ∧ ∀ i, i < len → w.cell? ⟨b, off + i, none⟩ = some (.int k (zs.getD i 0)) ∧ (Lit.int k (zs.getD i 0)).wf = true)

theorem Row.plain {k : IntKind} {w : World} {a : Option Addr} {len cap : Nat} {zs : List Int} (h : Row k w a len cap zs) : Plain k w a len zs := by
  rcases h with ⟨rfl, rfl, rfl, rfl⟩ | ⟨x, rfl, h1, h2, h3, hc, hw⟩
  · exact ⟨Nat.zero_le _, Or.inl rfl⟩
  · refine ⟨Nat.le_trans h1 h2, ?_⟩
    by_cases h0 : len = 0
    · exact Or.inl h0
    · right
      obtain ⟨b, off, sp⟩ := x
      have hz := hc 0 (by omega)
      have hsp : sp = none := by
        cases sp with
        | none => rfl
        | some q =>
          exfalso
          simp only [Addr.add, if_true] at hz
          unfold World.cell? at hz
          split at hz <;> simp at hz
      subst hsp
      refine ⟨b, off, rfl, ?_, fun i hi => ⟨?_, ?_⟩⟩
      · have := World.block_lt_of_cell? w _ hz
        simpa [Addr.add] using this
      · have := hc i (by omega)
        rwa [Addr.add_mid] at this
      · have hm : zs.getD i 0 ∈ zs := by
          rw [List.getD_eq_getElem?_getD, List.getElem?_eq_getElem (by omega)]
          exact List.getElem_mem _
        exact hw _ hm

theorem Plain.cell {k : IntKind} {w w' : World} {len : Nat} {zs : List Int} {b off : Nat} (hc : ∀ i, i < len → w.cell? ⟨b, off + i, none⟩ = some (.int k (zs.getD i 0)) ∧ (Lit.int k (zs.getD i 0)).wf = true)
    (hb : b < w.heap.size) (hB : Below w.heap.size w w') (i : Nat) (hi : i < len) : w'.cell? ⟨b, off + i, none⟩ = some (.int k (zs.getD i 0)) := by
  rw [hB.cell (p := ⟨b, off + i, none⟩) hb]; exact (hc i hi).1

theorem ownsMap_touch {H : Type} {P : Program} {k : TypeId} {R : Value → Option (DataW H × List MemPlace)} {w w' : World} {b n : Nat} {D : DataW H} {S : Nat → Prop} (h : w.ownsMap P k R b n D) (t : Touch S w w') (hs : ¬ S b) : w'.ownsMap P k R b n D := by
  have hlt := h.lt
  obtain ⟨es, clock, hb, F, hs', hD⟩ := h
  exact ⟨es, clock, (t.block b hlt hs).trans hb, F, hs', hD⟩
theorem Touch.ofGrown {w w' : World} {b : Nat} (h : w.grownBy w' (some b)) : Touch (· = b) w w' :=
  ⟨h.os, h.tape, h.output, h.size, fun k hk hs => h.block k hk (fun e => hs (by cases e; rfl))⟩
end Go.Proofs.YtpnegpcnmmaclaaDoor

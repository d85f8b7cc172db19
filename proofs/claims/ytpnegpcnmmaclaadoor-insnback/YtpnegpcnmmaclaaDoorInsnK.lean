/-
  insn: need, and Code.
-/
import Derived.Test.YtpnegpcnmmaclaaDoorInsnR
import Derived.Test.YtpnegpcnmmaclaaDoorInsnM
import Derived.Test.YtpnegpcnmmaclaaDoorInsnE
import Derived.Defers
import Derived.Recover
import Derived.WalkLawsBesides
import Derived.Deep.CutBlock
namespace Go.Proofs.YtpnegpcnmmaclaaDoor
open Go.ChangeShapes Go.WideShapes Go.ChangeAt Go.RowKit

theorem need_true (w : World) : Calls Tryd.prog 18 #[.bool true] w fun e w' => e = .returned (.tuple #[]) ∧ w = w' := by
  go_enter Tryd.func18, Tryd.ntmps18
  go_wp2
  go_end0
  exact ⟨rfl, rfl⟩
theorem need_false (w : World) : Calls Tryd.prog 18 #[.bool false] w fun e w' => e = .panicked [{ v := .iface 25 (.int .i64 2), recovered := false }] ∧ w = w' := by
  go_enter Tryd.func18, Tryd.ntmps18
  go_wp2
  exact ⟨rfl, rfl, rfl⟩

/-- The deferred closure, of a frame that panics: l becomes nil, e ErrForm; the panic is over. -/
theorem catch_panicking (p q : Addr) (x y : Value) (u : TypeId) (pv : Value) (older : List PanicEntry) (w : World) (hc : w.cell? p = some x) (hz : w.frozen? p = false) (hc' : w.cell? q = some y) (hz' : w.frozen? q = false) (hne : p.block ≠ q.block) :
    CallsD Tryd.prog 17 #[.pointer (some p), .pointer (some q)] (.panicking ({ v := .iface u pv, recovered := false } :: older)) w fun e u' w' =>
      e = .returned (.tuple #[]) ∧ u' = .panicking ({ v := .iface u pv, recovered := true } :: older) ∧ w' = (w.setCell p (.slice none 0 0)).setCell q (.int .i64 2) := by
  refine callsD_of_wpS Tryd.func17 rfl fun c₀ cs hu => ?_
  apply wpS_seq
  apply wpS_region
  simp [wpOpsS, go_sem, recoverD, hu, Tryd.ntmps17, Exit.thenS]
  refine wpS_cond (t := true) (by simp [Act.eval, Array.replicate]) ?_
  simp only [if_true]
  apply wpS_region
  have e1 : (w.setCell p (.slice none 0 0)).cell? q = some y := by rw [World.cell?_setCell_other _ _ _ _ (by intro h; exact hne (by rw [h]))]; exact hc'
  have e2 : (w.setCell p (.slice none 0 0)).frozen? q = false := by rw [← hz']; exact World.frozen?_of_block (Below.heap_setCell _ _ _ _ (Ne.symm hne))
  simp [wpOpsS, go_sem, hc, hz, e1, e2, bodyPostS, results, Tryd.results17]
theorem catch_idle (p q : Addr) (w : World) :
    CallsD Tryd.prog 17 #[.pointer (some p), .pointer (some q)] .returning w fun e u' w' => e = .returned (.tuple #[]) ∧ u' = .returning ∧ w' = w := by
  refine callsD_of_wpS Tryd.func17 rfl fun c₀ cs hu => ?_
  apply wpS_seq
  apply wpS_region
  simp [wpOpsS, go_sem, recoverD, hu, Tryd.ntmps17, Exit.thenS]
  refine wpS_cond (t := false) (by simp [Act.eval, Array.replicate]) ?_
  simp only [Bool.false_eq_true, if_false]
  refine wpS_of_wp (wp_skip ?_)
  cases c₀
  simp_all [bodyPostS, results, Tryd.results17]

/-- Reading a code: the list so far lies in the variable at L, the error's at E. -/
structure CS (w wr : World) (a : Option Addr) (cap : Nat) (acc : List Ins) : Prop where
  hL : wr.heap[w.heap.size]? = some (.cells #[.slice a acc.length cap] 24 (0, 0))
  hE : wr.heap[w.heap.size + 1]? = some (.cells #[.int .i64 0] 25 (0, 0))
  own : wr.ownsRow (w.heap.size + 2) 32 4 (.slice a acc.length cap) acc.length (flatI acc)
  V0 : Vs w
  B : Below w.heap.size w wr
theorem CS.V {w wr : World} {a : Option Addr} {cap : Nat} {acc : List Ins} (h : CS w wr a cap acc) : Vs wr := h.V0.later h.B
theorem CS.later {w wr wx : World} {a : Option Addr} {cap : Nat} {acc : List Ins} (h : CS w wr a cap acc) (b : Below wr.heap.size wr wx) : CS w wx a cap acc := by
  refine ⟨(b.block _ (lt_of_block h.hL)).trans h.hL, (b.block _ (lt_of_block h.hE)).trans h.hE, h.own.kept (grown_below b none) ?_, h.V0, h.B.trans (b.mono h.B.size)⟩
  cases hv : (Value.slice a acc.length cap).ownBlock with
  | none => exact Or.inl rfl
  | some g => exact Or.inr (by simp)
theorem CS.cells {w wr : World} {a : Option Addr} {cap : Nat} {acc : List Ins} (h : CS w wr a cap acc) :
    wr.cell? ⟨w.heap.size, 0, none⟩ = some (.slice a acc.length cap) ∧ wr.cell? ⟨w.heap.size + 1, 0, none⟩ = some (.int .i64 0) ∧ wr.frozen? ⟨w.heap.size, 0, none⟩ = false ∧ wr.frozen? ⟨w.heap.size + 1, 0, none⟩ = false := by
  have h1 := h.hL
  have h2 := h.hE
  simp [World.cell?, World.frozen?, h1, h2]
theorem CS.first (w : World) (hV : Vs w) : CS w ((w.alloc (.cells #[.slice none 0 0] 24)).alloc (.cells #[.int .i64 0] 25)) none 0 [] := by
  refine ⟨(Below.heap_alloc _ _ _ (by simp)).trans (heap_alloc_new w _), ?_, World.ownsRow_nil _ _ _ _, hV, ((Below.refl _ w).alloc (Nat.le_refl _) _).alloc (by simp) _⟩
  have := heap_alloc_new (w.alloc (.cells #[.slice none 0 0] 24)) (.cells #[.int .i64 0] 25)
  simpa using this

theorem CS.app {w wp : World} {a : Option Addr} {cap : Nat} {acc : List Ins} (h : CS w wp a cap acc) (few : acc.length ≤ 1000) (x : Ins) :
    ∃ g c wN, (Builtin.append_ #[24, 24] 24 #[.slice a acc.length cap, .slice (some ⟨wp.heap.size + 1, 0, none⟩) 1 1]).run Tryd.prog
        ((wp.alloc (.cells #[.int .i64 x.op, .int .i64 x.a, .int .i64 x.b, .int .i64 x.n] 32)).alloc (.cells #[.int .i64 x.op, .int .i64 x.a, .int .i64 x.b, .int .i64 x.n] 32)) = .ok (.slice (some ⟨g, 0, none⟩) (acc.length + 1) c) wN ∧
      wN.cell? ⟨w.heap.size, 0, none⟩ = some (.slice a acc.length cap) ∧ wN.frozen? ⟨w.heap.size, 0, none⟩ = false ∧
      CS w (wN.setCell ⟨w.heap.size, 0, none⟩ (.slice (some ⟨g, 0, none⟩) (acc.length + 1) c)) (some ⟨g, 0, none⟩) c (acc ++ [x]) := by
  obtain ⟨i, hi, hzz⟩ := Option.map_eq_some_iff.1 (show (Tryd.prog.info? 32).map (fun i => (i.zero, i.size, i.bytes)) = some (some (insV ⟨0, 0, 0, 0⟩), 4, 32) by kernel_rfl)
  simp only [Prod.mk.injEq] at hzz
  obtain ⟨hz0, hz1, hz2⟩ := hzz
  have h1 := (h.later ((Below.refl _ wp).alloc (Nat.le_refl _) (.cells #[.int .i64 x.op, .int .i64 x.a, .int .i64 x.b, .int .i64 x.n] 32))).later ((Below.refl _ _).alloc (Nat.le_refl _) (.cells #[.int .i64 x.op, .int .i64 x.a, .int .i64 x.b, .int .i64 x.n] 32))
  have hnews : ∀ j u, x.vs[j]? = some u → ((wp.alloc (.cells #[.int .i64 x.op, .int .i64 x.a, .int .i64 x.b, .int .i64 x.n] 32)).alloc (.cells #[.int .i64 x.op, .int .i64 x.a, .int .i64 x.b, .int .i64 x.n] 32)).cell? ((⟨wp.heap.size + 1, 0, none⟩ : Addr).add j) = some u := fun j u hu => by
    have hj : j < 4 := (List.getElem?_eq_some_iff.1 hu).1
    rcases (by omega : j = 0 ∨ j = 1 ∨ j = 2 ∨ j = 3) with rfl | rfl | rfl | rfl <;> (cases hu; simp [go_sem])
  obtain ⟨v', wN, hr, ho, hg, hn⟩ := run_append_own (P := Tryd.prog) _ (w.heap.size + 2) 24 24 32 i (insV ⟨0, 0, 0, 0⟩) 4 32 Tryd.underlying24 hi hz0 hz1 hz2 rfl (by decide) (.slice a acc.length cap) acc.length (flatI acc) h1.own ⟨wp.heap.size + 1, 0, none⟩ 1 1 x.vs rfl hnews
    (fun u hu => by simp [Ins.vs] at hu; rcases hu with rfl | rfl | rfl | rfl <;> rfl) (by unfold maxLen; omega) (by omega) (by have := lt_of_block h1.hE; omega)
  obtain ⟨ho1, ho2⟩ := ho
  rcases ho2 with ⟨_, h0⟩ | ⟨g, c, cur, rfl, hgb, hcur, hc1, hc2, hc3, hc4⟩
  · omega
  · have hrow : ∀ k, (Value.slice a acc.length cap).ownBlock = some k → w.heap.size + 2 ≤ k := fun k hk => (h1.own.lt k hk).1
    have kL := hg.block w.heap.size (lt_of_block h1.hL) (fun e => by have := hrow _ e.symm; omega)
    have kE := hg.block (w.heap.size + 1) (lt_of_block h1.hE) (fun e => by have := hrow _ e.symm; omega)
    have hLN := kL.trans h1.hL
    have hEN := kE.trans h1.hE
    have BN : Below w.heap.size w wN := h1.B.grown hg h1.B.size (fun k hk => by have := hrow _ hk; omega)
    refine ⟨g, c, wN, hr, by simp [World.cell?, hLN], by simp [World.frozen?, hLN], ?_⟩
    have hfl : flatI acc ++ x.vs = flatI (acc ++ [x]) := by simp [flatI]
    have hll : (acc ++ [x]).length = acc.length + 1 := by simp
    refine ⟨?_, (Below.heap_setCell _ _ _ _ (by show w.heap.size + 1 ≠ w.heap.size; omega)).trans hEN, ?_, h.V0, BN.setCell (Nat.le_refl _) _⟩
    · rw [hll]; have := set_block hLN 0 (.slice (some ⟨g, 0, none⟩) (acc.length + 1) c); simpa using this
    · rw [hll, ← hfl]
      exact ⟨ho1, Or.inr ⟨g, c, cur, rfl, hgb, (Below.heap_setCell _ _ _ _ (by show g ≠ w.heap.size; omega)).trans hcur, hc1, hc2, hc3, hc4⟩⟩
end Go.Proofs.YtpnegpcnmmaclaaDoor

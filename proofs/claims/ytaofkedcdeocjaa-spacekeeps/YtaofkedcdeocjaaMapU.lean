/-
  Maps of the call's own with int keys: what they answer, as equations.
-/
import Derived.Test.YtaofkedcdeocjaaMemF
import Derived.Test.YtaofkedcdeocjaaSlices
import Derived.Maps.OwnSet
namespace Go.Proofs.Ytaofkedcdeocjaa
open Go.ChangeShapes Go.WideShapes Go.ChangeAt Go.RowKit Go.Maps

theorem isKeyI (f : Int) : WideAt.IsKeyLit (.int .i64 f) := trivial
theorem keyI_ne {f g : Int} (h : g ≠ f) : (Lit.int .i64 g) ≠ .int .i64 f := by
  intro e; injection e with _ e; exact h e
theorem key_I (f : Int) (h0 : 0 ≤ f) (h1 : f < 256) : keyOf Try.prog 3 (.int .i64 f) = some (.int .i64 f) := keyOf_int_mk Try.underlying3 (WalkArith.wf_i64 (by omega))
theorem lawI : Keyed Try.prog 3 := int_keyed Try.underlying3
theorem zeroU (w : World) : (zeroValue 23).run Try.prog w = .ok (.int .u64 0) w := by kernel_rfl
theorem zeroB (w : World) : (zeroValue 4).run Try.prog w = .ok (.bool false) w := by kernel_rfl
theorem plainElem_bool_inv {P : Program} {e : TypeId} (he : P.underlying e = some .bool) {v : Value} {z : DataW Unit × List MemPlace} (h : plainElem P e v = some z) : ∃ a, v = .bool a ∧ z = (.lit (.bool a), []) := by
  unfold plainElem at h
  rw [he] at h
  cases v <;> simp at h
  subst h
  exact ⟨_, rfl, rfl⟩
/-- What a map of words answers, as an equation. -/
theorem lookU {w : World} {B n : Nat} {D : DataW Unit} (h : w.ownsMap Try.prog 3 (plainElem Try.prog 23) B n D) (f : Int) (h0 : 0 ≤ f) (h1 : f < 256) {x : Int} (hx : D.atKey (.int .i64 f) (.lit (.int .u64 0)) = .lit (.int .u64 x)) :
    (Instr.lookup 69 (.map (some B)) (.int .i64 f) false).run Try.prog w = .ok (.int .u64 x) w := by
  obtain ⟨c, hrun, hat, _⟩ := h.lookup_int lawI Try.underlying69 Try.underlying23 (zeroU _) (key_I f h0 h1)
  have hc : c = x := by have := hx.symm.trans hat; simpa using this.symm
  rw [hrun, hc]
theorem lensU {w : World} {B n : Nat} {D : DataW Unit} (h : w.ownsMap Try.prog 3 (plainElem Try.prog 23) B n D) :
    (Builtin.len_ #[69] 3 #[.map (some B)]).run Try.prog w = .ok (.int .i64 (Maps.size D)) w := h.len Try.underlying69 3
/-- What a map of bools answers. -/
theorem lookB {w : World} {B n : Nat} {D : DataW Unit} (h : w.ownsMap Try.prog 3 (plainElem Try.prog 4) B n D) (f : Int) (h0 : 0 ≤ f) (h1 : f < 256) {x : Bool} (hx : D.atKey (.int .i64 f) (.lit (.bool false)) = .lit (.bool x)) :
    (Instr.lookup 70 (.map (some B)) (.int .i64 f) false).run Try.prog w = .ok (.bool x) w := by
  obtain ⟨v, ps, hrun, hv⟩ := h.lookup lawI Try.underlying70 (zeroB _) (plainElem_bool Try.underlying4 false) (key_I f h0 h1)
  obtain ⟨c, rfl, hc⟩ := plainElem_bool_inv Try.underlying4 hv
  simp only [Prod.mk.injEq] at hc
  have hc : c = x := by have := hx.symm.trans hc.1; simpa using this.symm
  rw [hrun, hc]
theorem lensB {w : World} {B n : Nat} {D : DataW Unit} (h : w.ownsMap Try.prog 3 (plainElem Try.prog 4) B n D) :
    (Builtin.len_ #[70] 3 #[.map (some B)]).run Try.prog w = .ok (.int .i64 (Maps.size D)) w := h.len Try.underlying70 3

end Go.Proofs.Ytaofkedcdeocjaa

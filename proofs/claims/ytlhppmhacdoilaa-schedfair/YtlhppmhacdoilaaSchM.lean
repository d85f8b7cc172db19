/-
  Package sched: maps from processes to bools, of the call's own: who is alive, who was found.
-/
import Derived.Test.YtlhppmhacdoilaaSchF
import Derived.Test.YtlhppmhacdoilaaSlices
import Derived.Test.YtlhppmhacdoilaaRows3
import Derived.Maps.OwnSet
import Derived.Maps.RangeWalk
namespace Go.Proofs.Ytlhppmhacdoilaa
open Go.ChangeShapes Go.WideShapes Go.ChangeAt Go.RowKit Go.Maps

theorem sdKey_ne {f g : Int} (h : g ≠ f) : (Lit.int .i64 g) ≠ .int .i64 f := by
  intro e; injection e with _ e; exact h e
theorem sdIsKey (f : Int) : WideAt.IsKeyLit (.int .i64 f) := trivial
theorem sdKey (f : Int) (h0 : -1 ≤ f) (h1 : f < 256) : keyOf Try.prog 3 (.int .i64 f) = some (.int .i64 f) := keyOf_int_mk Try.underlying3 (WalkArith.wf_i64 (by omega))
theorem sdLaw : Keyed Try.prog 3 := int_keyed Try.underlying3
theorem sdZero (w : World) : (zeroValue 4).run Try.prog w = .ok (.bool false) w := by kernel_rfl
theorem sdElem_inv {P : Program} {e : TypeId} (he : P.underlying e = some .bool) {v : Value} {z : DataW Unit × List MemPlace} (h : plainElem P e v = some z) : ∃ a, v = .bool a ∧ z = (.lit (.bool a), []) := by
  unfold plainElem at h
  rw [he] at h
  cases v <;> simp at h
  subst h
  exact ⟨_, rfl, rfl⟩
/-- A map of bools in block B, behind at most n stores. -/
abbrev BMap (w : World) (B n : Nat) (D : DataW Unit) : Prop := w.ownsMap Try.prog 3 (plainElem Try.prog 4) B n D
theorem sdLook {w : World} {B n : Nat} {D : DataW Unit} (h : BMap w B n D) (f : Int) (h0 : -1 ≤ f) (h1 : f < 256) {x : Bool} (hx : D.atKey (.int .i64 f) (.lit (.bool false)) = .lit (.bool x)) :
    (Instr.lookup 37 (.map (some B)) (.int .i64 f) false).run Try.prog w = .ok (.bool x) w := by
  obtain ⟨v, ps, hrun, hv⟩ := h.lookup sdLaw Try.underlying37 (sdZero _) (plainElem_bool Try.underlying4 false) (sdKey f h0 h1)
  obtain ⟨c, rfl, hc⟩ := sdElem_inv Try.underlying4 hv
  simp only [Prod.mk.injEq] at hc
  have hc : c = x := by have := hx.symm.trans hc.1; simpa using this.symm
  rw [hrun, hc]
/-- The map tells who is alive. -/
structure Lives (s : Sd) (D : DataW Unit) : Prop where
  at' : ∀ p : Nat, p < 4 → D.atKey (.int .i64 p) (.lit (.bool false)) = .lit (.bool (s.A p))
  ks : ∀ kl, Maps.has D kl = true → ∃ p : Nat, p < 4 ∧ kl = .int .i64 p ∧ s.A p = true
namespace Lives
variable {s s' : Sd} {D : DataW Unit}
theorem start (s : Sd) (h : ∀ i, i < 4 → s.A i = false) : Lives s (.map []) := ⟨fun p hp => by rw [h p hp]; rfl, fun kl h => by simp [Maps.has] at h⟩
theorem of (h : Lives s D) (e : ∀ p, p < 4 → s'.A p = s.A p) : Lives s' D :=
  ⟨fun p hp => by rw [e p hp]; exact h.at' p hp, fun kl hk => by obtain ⟨p, hp, e1, e2⟩ := h.ks kl hk; exact ⟨p, hp, e1, by rw [e p hp]; exact e2⟩⟩
theorem put (h : Lives s D) (tD : IsMap D) (p : Nat) (hp : p < 4) (e : ∀ i, i < 4 → s'.A i = if i = p then true else s.A i) : Lives s' (D.put (.int .i64 p) (.lit (.bool true))) := by
  refine ⟨fun i hi => ?_, fun kl hk => ?_⟩
  · rw [e i hi]
    by_cases q : i = p
    · subst q; rw [if_pos rfl, atKey_put_same tD (sdIsKey _)]
    · rw [if_neg q, atKey_put_other (sdKey_ne (by omega))]; exact h.at' i hi
  · by_cases q : kl = .int .i64 p
    · exact ⟨p, hp, q, by rw [e p hp, if_pos rfl]⟩
    · rw [has_put_other q] at hk
      obtain ⟨i, hi, e1, e2⟩ := h.ks kl hk
      refine ⟨i, hi, e1, ?_⟩
      rw [e i hi]
      split
      · rfl
      · exact e2
theorem del (h : Lives s D) (p : Nat) (e : ∀ i, i < 4 → s'.A i = if i = p then false else s.A i) : Lives s' (D.del (.int .i64 p)) := by
  refine ⟨fun i hi => ?_, fun kl hk => ?_⟩
  · rw [e i hi]
    by_cases q : i = p
    · subst q; rw [if_pos rfl, atKey_del_same]
    · rw [if_neg q, atKey_del_other (sdKey_ne (by omega))]; exact h.at' i hi
  · by_cases q : kl = .int .i64 p
    · rw [q, has_del_same] at hk; cases hk
    · rw [has_del_other q] at hk
      obtain ⟨i, hi, e1, e2⟩ := h.ks kl hk
      refine ⟨i, hi, e1, ?_⟩
      rw [e i hi, if_neg]
      · exact e2
      · rintro rfl; exact q e1
end Lives
/-- The map tells who was found. -/
def Found (l : List Int) (D : DataW Unit) : Prop := ∀ p : Int, D.atKey (.int .i64 p) (.lit (.bool false)) = .lit (.bool (l.contains p))
theorem Found.nil : Found [] (.map []) := fun _ => rfl
theorem Found.put {l : List Int} {D : DataW Unit} (h : Found l D) (tD : IsMap D) (p : Int) : Found (p :: l) (D.put (.int .i64 p) (.lit (.bool true))) := fun q => by
  by_cases e : q = p
  · subst e; rw [atKey_put_same tD (sdIsKey _)]; simp
  · rw [atKey_put_other (sdKey_ne e), h q]
    have : (q == p) = false := by simpa using e
    rw [List.contains_cons, this, Bool.false_or]
end Go.Proofs.Ytlhppmhacdoilaa

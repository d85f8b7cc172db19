/-
  Maps of the call's own whose keys are pairs of numbers, beside names of spaces.
-/
import Derived.Test.YtpffilnebffijaaNamC
import Derived.Test.YtpffilnebffijaaSlices
import Derived.Maps.OwnSet
import Derived.WideKeyPair
import Derived.DeepKeys4
namespace Go.Proofs.Ytpffilnebffijaa
open Go.ChangeShapes Go.WideShapes Go.ChangeAt Go.RowKit Go.Maps Go.WideMaps

theorem laid2 : laidOutB Try.prog = true := by kernel_rfl
theorem arr2 : ArrKey Try.prog 83 3 2 := ⟨Try.underlying83, by kernel_rfl, by kernel_rfl, by kernel_rfl⟩
theorem row2 : (83 : TypeId) < Try.prog.types.size := of_decide_eq_true (by kernel_rfl)
set_option maxRecDepth 20000 in
theorem law2 : Keyed Try.prog 83 := Keyed.of_law (deep_law_laid laid2 (m := 2) (by omega) row2 (arr2.at 0) arr2.wide)
theorem size2 : ∃ m, Try.prog.types.size = m + 1 := by
  have := row2
  generalize Try.prog.types.size = n at *
  exact ⟨n - 1, by have : 0 < n := Nat.lt_of_le_of_lt (Nat.zero_le _) this; omega⟩
/-- A pair as a key. -/
def pkV (c k : Int) : Value := .agg #[.int .i64 c, .int .i64 k]
def pkL (c k : Int) : Lit := .string (keyBytes [.int .i64 c, .int .i64 k])
def smI (c : Int) : Prop := -1000 ≤ c ∧ c ≤ 1000
theorem key2 (c k : Int) (h : smI c) (h' : smI k) : keyOf Try.prog 83 (pkV c k) = some (pkL c k) := by
  unfold smI at h h'
  exact keyOf_pair arr2 Try.underlying3 size2 (WalkArith.wf_i64 (by omega)) (WalkArith.wf_i64 (by omega))
theorem pkL_ne {c k c' k' : Int} (h1 : smI c) (h2 : smI k) (h3 : smI c') (h4 : smI k') (hne : ¬ (c' = c ∧ k' = k)) : pkL c' k' ≠ pkL c k := by
  intro e
  have a := key2 c k h1 h2
  have b := key2 c' k' h3 h4
  rw [e] at b
  have := law2.inj a b
  unfold pkV at this
  injection this with this
  simp at this
  exact hne ⟨this.1.symm, this.2.symm⟩
theorem pkL_key (c k : Int) : WideAt.IsKeyLit (pkL c k) := trivial
theorem zeroB2 (w : World) : (zeroValue 4).run Try.prog w = .ok (.bool false) w := by kernel_rfl
theorem plainBool_inv {P : Program} {e : TypeId} (he : P.underlying e = some .bool) {v : Value} {z : DataW Unit × List MemPlace} (h : plainElem P e v = some z) : ∃ a, v = .bool a ∧ z = (.lit (.bool a), []) := by
  unfold plainElem at h
  rw [he] at h
  cases v <;> simp at h
  subst h
  exact ⟨_, rfl, rfl⟩
/-- A map of such keys to bools in block B. -/
abbrev PM (w : World) (B n : Nat) (D : DataW Unit) : Prop := w.ownsMap Try.prog 83 (plainElem Try.prog 4) B n D
/-- What it answers. -/
def PMat (D : DataW Unit) (c k : Int) (x : Bool) : Prop := D.atKey (pkL c k) (.lit (.bool false)) = .lit (.bool x)
theorem PM.look {w : World} {B n : Nat} {D : DataW Unit} (h : PM w B n D) {c k : Int} (h1 : smI c) (h2 : smI k) {x : Bool} (hx : PMat D c k x) :
    (Instr.lookup 82 (.map (some B)) (.agg #[.int .i64 c, .int .i64 k]) false).run Try.prog w = .ok (.bool x) w := by
  obtain ⟨v, ps, hrun, hv⟩ := h.lookup law2 Try.underlying82 (zeroB2 _) (plainElem_bool Try.underlying4 false) (key2 c k h1 h2)
  obtain ⟨y, rfl, hy⟩ := plainBool_inv Try.underlying4 hv
  simp only [Prod.mk.injEq] at hy
  have hy : y = x := by have := hx.symm.trans hy.1; simpa using this.symm
  rw [← hy]; exact hrun
/-- All that it answers of small numbers. -/
def PMof (D : DataW Unit) (f : Int → Int → Bool) : Prop := ∀ c k, smI c → smI k → PMat D c k (f c k)
theorem PMof.empty : PMof (.map []) (fun _ _ => false) := fun _ _ _ _ => rfl
theorem PMof.put {D : DataW Unit} {f : Int → Int → Bool} (h : PMof D f) (hT : Tidy D) {c k : Int} (h1 : smI c) (h2 : smI k) (x : Bool) : PMof (D.put (pkL c k) (.lit (.bool x))) (fun c' k' => if c' = c ∧ k' = k then x else f c' k') := by
  intro c' k' h3 h4
  unfold PMat
  dsimp only
  by_cases e : c' = c ∧ k' = k
  · rw [if_pos e, e.1, e.2, atKey_put_same hT.isMap (pkL_key c k)]
  · rw [if_neg e, atKey_put_other (pkL_ne h1 h2 h3 h4 e)]
    exact h c' k' h3 h4
theorem PMof.del {D : DataW Unit} {f : Int → Int → Bool} (h : PMof D f) {c k : Int} (h1 : smI c) (h2 : smI k) : PMof (D.del (pkL c k)) (fun c' k' => if c' = c ∧ k' = k then false else f c' k') := by
  intro c' k' h3 h4
  unfold PMat
  dsimp only
  by_cases e : c' = c ∧ k' = k
  · rw [if_pos e, e.1, e.2, atKey_del_same]
  · rw [if_neg e, atKey_del_other (pkL_ne h1 h2 h3 h4 e)]
    exact h c' k' h3 h4
theorem PMof.congr {D : DataW Unit} {f g : Int → Int → Bool} (h : PMof D f) (e : ∀ c k, f c k = g c k) : PMof D g := fun c k h1 h2 => by rw [← e]; exact h c k h1 h2

/-- What must be flushed behind each call. -/
theorem NS.took_must {n : NS} {c k : Int} (hc : n.hasC c = true) (hk : isPr k = true) (c' k' : Int) : (n.must c k).took c' k' = if c' = c ∧ k' = k then true else n.took c' k' := by
  have e : n.must c k = n.lay c.toNat k.toNat true := by unfold NS.must; rw [hc, hk]; rfl
  rw [e]
  obtain ⟨c0, c1⟩ := (hasC_iff n c).1 hc
  obtain ⟨k0, k1⟩ := (isPr_iff k).1 hk
  by_cases q : c' = c ∧ k' = k
  · obtain ⟨rfl, rfl⟩ := q
    rw [if_pos ⟨rfl, rfl⟩]
    unfold took
    rw [show (n.lay c'.toNat k'.toNat true).hasC c' = true from hc, hk, lay_M, if_pos ⟨rfl, rfl⟩]; rfl
  · rw [if_neg q]
    unfold took
    rw [show (n.lay c.toNat k.toNat true).hasC c' = n.hasC c' from rfl]
    cases h1 : n.hasC c'
    · rfl
    · cases h2 : isPr k'
      · rfl
      · obtain ⟨a0, a1⟩ := (hasC_iff n c').1 h1
        obtain ⟨b0, b1⟩ := (isPr_iff k').1 h2
        rw [lay_M, if_neg (by omega)]
theorem NS.took_take (n : NS) (c k c' k' : Int) : (n.take c k).took c' k' = if c' = c ∧ k' = k then false else n.took c' k' := by
  by_cases ht : n.took c k = true
  · have e : n.take c k = n.lay c.toNat k.toNat false := by unfold NS.take; rw [if_pos ht]
    rw [e]
    have ht' := ht
    unfold took at ht'
    simp only [Bool.and_eq_true] at ht'
    obtain ⟨⟨hc, hk⟩, hM⟩ := ht'
    obtain ⟨c0, c1⟩ := (hasC_iff n c).1 hc
    obtain ⟨k0, k1⟩ := (isPr_iff k).1 hk
    by_cases q : c' = c ∧ k' = k
    · obtain ⟨rfl, rfl⟩ := q
      rw [if_pos ⟨rfl, rfl⟩]
      unfold took
      rw [lay_M, if_pos ⟨rfl, rfl⟩, Bool.and_false]
    · rw [if_neg q]
      unfold took
      rw [show (n.lay c.toNat k.toNat false).hasC c' = n.hasC c' from rfl]
      cases h1 : n.hasC c'
      · rfl
      · cases h2 : isPr k'
        · rfl
        · obtain ⟨a0, a1⟩ := (hasC_iff n c').1 h1
          obtain ⟨b0, b1⟩ := (isPr_iff k').1 h2
          rw [lay_M, if_neg (by omega)]
  · have e : n.take c k = n := by unfold NS.take; rw [if_neg ht]
    rw [e]
    by_cases q : c' = c ∧ k' = k
    · obtain ⟨rfl, rfl⟩ := q
      rw [if_pos ⟨rfl, rfl⟩]; simpa using ht
    · rw [if_neg q]
theorem NS.took_all {n : NS} {k : Int} (hk : isPr k = true) (c' k' : Int) : (n.all k).took c' k' = if n.hasC c' = true ∧ k' = k then true else n.took c' k' := by
  obtain ⟨k0, k1⟩ := (isPr_iff k).1 hk
  unfold took
  rw [show (n.all k).hasC c' = n.hasC c' by unfold hasC; rw [all_c]]
  cases h1 : n.hasC c'
  · simp
  · obtain ⟨a0, a1⟩ := (hasC_iff n c').1 h1
    rw [all_M]
    cases h2 : isPr k'
    · rw [if_neg (fun q : _ ∧ k' = k => by rw [q.2, hk] at h2; cases h2)]; rfl
    · obtain ⟨b0, b1⟩ := (isPr_iff k').1 h2
      by_cases q : k' = k
      · subst q
        rw [if_pos ⟨by omega, hk, rfl⟩, if_pos ⟨rfl, rfl⟩]; rfl
      · rw [if_neg (by omega), if_neg (fun e => q e.2)]
theorem NS.take_twice {n : NS} {c k : Int} (h : n.took c k = false) : n.take c k = n := by unfold NS.take; rw [h]; rfl
theorem NS.took_P (n : NS) (p q : Nat) (c k : Int) : (n.put p q).took c k = n.took c k := rfl
end Go.Proofs.Ytpffilnebffijaa

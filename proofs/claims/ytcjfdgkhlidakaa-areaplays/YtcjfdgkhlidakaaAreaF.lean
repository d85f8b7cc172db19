/-
  Package area: lists held against each other; rows of pages, plain; the chapter's example.
-/
import Derived.Test.YtcjfdgkhlidakaaAreaE
namespace Go.Proofs.Ytcjfdgkhlidakaa
open Go.ChangeShapes Go.WideShapes Go.ChangeAt Go.RowKit

/-- A slice that holds these numbers. -/
def IntsL (w : World) (a : Option Addr) (l : List Int) : Prop :=
  l = [] ∨ ∃ b o, a = some ⟨b, o, none⟩ ∧ b < w.heap.size ∧ ∀ i, i < l.length → w.cell? ⟨b, o + i, none⟩ = some (.int .i64 (l.getD i 0))
/-- .. these runs, of the program's type or the document's. -/
def RunsL (w : World) (a : Option Addr) (l : List Rn) : Prop :=
  l = [] ∨ ∃ b o, a = some ⟨b, o, none⟩ ∧ b < w.heap.size ∧ ∀ (i : Nat) x, l[i]? = some x → w.cell? ⟨b, o + i * 3, none⟩ = some (.int .i64 x.f) ∧ w.cell? ⟨b, o + i * 3 + 1, none⟩ = some (.int .i64 x.n) ∧ w.cell? ⟨b, o + i * 3 + 2, none⟩ = some (.int .i64 x.r)
theorem IntsL.touch {w w' : World} {a : Option Addr} {l : List Int} (h : IntsL w a l) (t : Touch Nil w w') : IntsL w' a l := by
  rcases h with h | ⟨b, o, rfl, hb, hc⟩
  · exact Or.inl h
  · refine Or.inr ⟨b, o, rfl, Nat.lt_of_lt_of_le hb t.size, fun i hi => ?_⟩
    have := hc i hi
    unfold World.cell? at this ⊢
    rw [t.block b hb (fun q => q.elim)]; exact this
theorem RunsL.touch {w w' : World} {a : Option Addr} {l : List Rn} (h : RunsL w a l) (t : Touch Nil w w') : RunsL w' a l := by
  rcases h with h | ⟨b, o, rfl, hb, hc⟩
  · exact Or.inl h
  · refine Or.inr ⟨b, o, rfl, Nat.lt_of_lt_of_le hb t.size, fun i x hx => ?_⟩
    have := hc i x hx
    unfold World.cell? at this ⊢
    rw [t.block b hb (fun q => q.elim)]; exact this
theorem owns_lt {w : World} {base size n cap g : Nat} {e : TypeId} {xs : List Value} (h : w.ownsRow base e size (.slice (some ⟨g, 0, none⟩) n cap) n xs) : base ≤ g ∧ g < w.heap.size := h.lt g rfl
theorem owns_ints {w : World} {base n cap : Nat} {a : Option Addr} {e : TypeId} {l : List Int} (h : w.ownsRow base e 1 (.slice a n cap) n (ilist l)) (hn : l.length = n) : IntsL w a l := by
  by_cases h0 : n = 0
  · exact Or.inl (List.length_eq_zero_iff.1 (by omega))
  · obtain ⟨a', c', e', hg⟩ := owns_form h
    cases e'
    obtain ⟨g, rfl⟩ := hg (by omega)
    refine Or.inr ⟨g, 0, rfl, (owns_lt h).2, fun i hi => ?_⟩
    rw [Nat.zero_add, h.cellAt i (by omega), ilist_get l hi]
theorem owns_runs {w : World} {base n cap : Nat} {a : Option Addr} {e : TypeId} {l : List Rn} (h : w.ownsRow base e 3 (.slice a n cap) n (flatR l)) (hn : l.length = n) : RunsL w a l := by
  by_cases h0 : n = 0
  · exact Or.inl (List.length_eq_zero_iff.1 (by omega))
  · obtain ⟨a', c', e', hg⟩ := owns_form h
    cases e'
    obtain ⟨g, rfl⟩ := hg (by omega)
    refine Or.inr ⟨g, 0, rfl, (owns_lt h).2, fun i x hx => ?_⟩
    have hi : i < n := by have := (List.getElem?_eq_some_iff.1 hx).1; omega
    obtain ⟨c0, c1, c2⟩ := flatR_get l hx
    rw [Nat.zero_add]
    exact ⟨by rw [h.cellAt _ (by omega), c0], by rw [h.cellAt _ (by omega), c1], by rw [h.cellAt _ (by omega), c2]⟩
set_option maxHeartbeats 1000000 in
theorem isame_any {w : World} {a a' : Option Addr} {l : List Int} (h : IntsL w a l) (h' : IntsL w a' l) (n : Nat) (hn : l.length = n) (few : n ≤ 1000000) (k k' : Nat) :
    Calls Try.prog 26 #[.slice a n k, .slice a' n k'] w fun e w' => e = .returned (.bool true) ∧ Touch Nil w w' := by
  go_enter Try.func26, Try.ntmps26
  go_wp2_with fail
  go_loopg [5] n (fun g v wr => ∃ j : Nat, g + j = n ∧ v = .int .i64 j ∧ Aside (Touch Nil w wr))
  case atStart => exact ⟨0, by omega, rfl, Touch.refl _ w⟩
  case round =>
    obtain ⟨j, hgj, rfl, tk⟩ := hrel
    by_cases hlt : j < n
    · have j1 : (j : Int) < n := by omega
      rcases h.touch tk.out with h | ⟨b, o, rfl, hb, hc⟩
      · rw [h] at hn; simp at hn; omega
      rcases h'.touch tk.out with h' | ⟨b', o', rfl, hb', hc'⟩
      · rw [h'] at hn; simp at hn; omega
      have q1 := hc j (by omega)
      have q2 := hc' j (by omega)
      generalize l.getD j 0 = x at q1 q2
      clear hc hc' h h'
      go_wp2_with fail
      go_quiet (fail)
      go_wp2_with fail
      go_roundg (n - (j + 1))
      case measure => omega
      case rel => exact ⟨j + 1, by omega, by go_num, tk.out.drews _⟩
    · have hjn : j = n := by omega
      subst hjn
      go_wp2_with fail
      go_ret
      exact ⟨rfl, tk.out⟩
/-- The runs of the pages below k. -/
def runsK (R : Nat → Int) (k : Nat) : List Rn := runsA R (pgsA R k)
theorem runsK_zero (R : Nat → Int) : runsK R 0 = [] := rfl
theorem rt_of {R : Nat → Int} {k : Nat} {r : Int} (h : R k = r) (hr : 0 ≤ r) : rt R k = r := by unfold rt; rw [h, if_neg (by omega)]
theorem runsK_yes {R : Nat → Int} {k : Nat} {r : Int} (h : R k = r) (hr : 0 ≤ r) : runsK R (k + 1) = stepR (runsK R k) k r := by
  unfold runsK
  rw [pgsA, if_pos (by omega), runsA_snoc, Int.toNat_natCast, rt_of h hr]
theorem runsK_no {R : Nat → Int} {k : Nat} (h : R k < 0) : runsK R (k + 1) = runsK R k := by
  unfold runsK
  rw [pgsA, if_neg (by omega), List.append_nil]
theorem runsK_skip (R : Nat → Int) (a n : Nat) (h : ∀ i, i < n → R (a + i) < 0) : runsK R (a + n) = runsK R a := by
  induction n with
  | zero => rfl
  | succ n ih => rw [← Nat.add_assoc, runsK_no (h n (by omega)), ih (fun i hi => h i (by omega))]
theorem runsK_seg (R : Nat → Int) (a n : Nat) (r : Int) (hn : 1 ≤ n) (hr : 0 ≤ r) (h : ∀ i, i < n → R (a + i) = r) (hj : ∀ x, (runsK R a).getLast? = some x → ¬ (x.f + x.n = a ∧ x.r = r)) : runsK R (a + n) = runsK R a ++ [⟨a, n, r⟩] := by
  induction n with
  | zero => omega
  | succ n ih =>
    rw [← Nat.add_assoc, runsK_yes (h n (by omega)) hr]
    by_cases h0 : n = 0
    · subst h0
      show stepR (runsK R a) _ _ = _
      unfold stepR
      cases e : (runsK R a).getLast? with
      | none => rw [List.getLast?_eq_none_iff.1 e]; simp
      | some x =>
        have := hj x e
        simp only
        rw [if_neg (by simpa using this)]
        simp
    · rw [ih (by omega) (fun i hi => h i (by omega)), stepR_snoc, if_pos ⟨by simp, rfl⟩]
      simp
theorem pgsA_skip (R : Nat → Int) (a n : Nat) (h : ∀ i, i < n → R (a + i) < 0) : pgsA R (a + n) = pgsA R a := by
  induction n with
  | zero => rfl
  | succ n ih => rw [← Nat.add_assoc, pgsA, if_neg (by have := h n (by omega); omega), List.append_nil, ih (fun i hi => h i (by omega))]
theorem pgsA_seg (R : Nat → Int) (a n : Nat) (h : ∀ i, i < n → 0 ≤ R (a + i)) : (pgsA R (a + n)).length = (pgsA R a).length + n := by
  induction n with
  | zero => rfl
  | succ n ih => rw [← Nat.add_assoc, pgsA, if_pos (h n (by omega)), List.length_append, ih (fun i hi => h i (by omega))]; simp; omega
end Go.Proofs.Ytcjfdgkhlidakaa

/-
  Package area: rows of pages, plain: rising, apart, and just the pages that there are.
-/
import Derived.Test.YtehdaiagkonekaaAreaG
namespace Go.Proofs.Ytehdaiagkonekaa
open Go.ChangeShapes Go.WideShapes Go.ChangeAt Go.RowKit

/-- The first q pages of a run. -/
def pagesR (f : Int) : Nat → List Int
  | 0 => []
  | q + 1 => pagesR f q ++ [f + q]
theorem pagesR_len (f : Int) (q : Nat) : (pagesR f q).length = q := by
  induction q with
  | zero => rfl
  | succ q ih => simp [pagesR, ih]
def expandR : List Rn → List Int
  | [] => []
  | x :: l => pagesR x.f x.n.toNat ++ expandR l
theorem expandR_app (l m : List Rn) : expandR (l ++ m) = expandR l ++ expandR m := by
  induction l with
  | nil => rfl
  | cons x l ih => simp [expandR, ih]
/-- What rows of the pages below k are. -/
structure GoodR (R : Nat → Int) (k : Nat) (L : List Rn) : Prop where
  each : ∀ x ∈ L, 1 ≤ x.n ∧ 0 ≤ x.f ∧ x.f + x.n ≤ k ∧ ∀ i : Nat, x.f ≤ i → (i : Int) < x.f + x.n → 0 ≤ R i ∧ R i = x.r
  next : ∀ (i : Nat) y x, L[i]? = some y → L[i + 1]? = some x → y.f + y.n ≤ x.f ∧ ¬ (x.f = y.f + y.n ∧ x.r = y.r)
  all : expandR L = pgsA R k
theorem get_snoc_lt {α : Type} {l : List α} {x y : α} {i : Nat} (h : (l ++ [x])[i]? = some y) : (i < l.length ∧ l[i]? = some y) ∨ (i = l.length ∧ x = y) := by
  by_cases e : i < l.length
  · left; rw [List.getElem?_append_left e] at h; exact ⟨e, h⟩
  · right
    rw [List.getElem?_append_right (by omega)] at h
    have : i - l.length = 0 := by
      have := (List.getElem?_eq_some_iff.1 h).1; simp at this; omega
    rw [this] at h
    exact ⟨by omega, by simpa using h⟩
theorem GoodR.skip {R : Nat → Int} {k : Nat} {L : List Rn} (h : GoodR R k L) (hk : R k < 0) : GoodR R (k + 1) L where
  each x hx := by obtain ⟨a, b, c, d⟩ := h.each x hx; exact ⟨a, b, by omega, d⟩
  next := h.next
  all := by rw [h.all, pgsA, if_neg (by omega), List.append_nil]
theorem GoodR.step {R : Nat → Int} {k : Nat} {L : List Rn} (h : GoodR R k L) (hk : 0 ≤ R k) : GoodR R (k + 1) (stepR L k (R k)) := by
  rcases List.eq_nil_or_concat L with e | ⟨pre, x, e⟩
  · subst e
    have e1 : stepR [] (k : Int) (R k) = [⟨k, 1, R k⟩] := rfl
    rw [e1]
    refine ⟨fun x hx => ?_, fun i y x hy hx => ?_, ?_⟩
    · simp at hx; subst hx
      exact ⟨by show (1 : Int) ≤ 1; omega, by show (0 : Int) ≤ k; omega, by show (k : Int) + 1 ≤ _; omega, fun i h1 h2 => by
        have h1 : (k : Int) ≤ i := h1
        have h2 : (i : Int) < k + 1 := h2
        have : i = k := by omega
        subst this; exact ⟨hk, rfl⟩⟩
    · simp at hx
    · have := h.all
      rw [pgsA, if_pos hk, ← this]
      simp [expandR, pagesR]
  · have e : L = pre ++ [x] := by simpa using e
    subst e
    rw [stepR_snoc]
    obtain ⟨x1, x2, x3, x4⟩ := h.each x (by simp)
    have hall := h.all
    rw [expandR_app] at hall
    split
    · rename_i hj
      obtain ⟨j1, j2⟩ := hj
      refine ⟨fun y hy => ?_, fun i y z hy hz => ?_, ?_⟩
      · rcases List.mem_append.1 hy with hy | hy
        · obtain ⟨a, b, c, d⟩ := h.each y (by simp [hy]); exact ⟨a, b, by omega, d⟩
        · simp at hy; subst hy
          refine ⟨by show 1 ≤ x.n + 1; omega, x2, by show x.f + (x.n + 1) ≤ _; omega, fun i h1 h2 => ?_⟩
          have h1 : x.f ≤ i := h1
          have h2 : (i : Int) < x.f + (x.n + 1) := h2
          by_cases q : (i : Int) < x.f + x.n
          · exact x4 i h1 q
          · have : i = k := by omega
            subst this; exact ⟨hk, j2.symm⟩
      · rcases get_snoc_lt hz with ⟨q, hz'⟩ | ⟨q, hz'⟩
        · rw [List.getElem?_append_left (by omega)] at hy
          exact h.next i y z (by rw [List.getElem?_append_left (by omega)]; exact hy) (by rw [List.getElem?_append_left q]; exact hz')
        · rw [List.getElem?_append_left (by omega)] at hy
          subst hz'
          exact h.next i y x (by rw [List.getElem?_append_left (by omega)]; exact hy) (by rw [List.getElem?_append_right (by omega), q]; simp)
      · rw [expandR_app, pgsA, if_pos hk, ← hall]
        obtain ⟨m, hm⟩ : ∃ m : Nat, x.n = m := ⟨x.n.toNat, by omega⟩
        simp only [expandR, List.append_nil, hm, List.append_assoc]
        rw [show ((m : Int) + 1).toNat = m + 1 by omega, Int.toNat_natCast, pagesR, ← hm, j1]
    · rename_i hj
      refine ⟨fun y hy => ?_, fun i y z hy hz => ?_, ?_⟩
      · rcases List.mem_append.1 hy with hy | hy
        · obtain ⟨a, b, c, d⟩ := h.each y hy; exact ⟨a, b, by omega, d⟩
        · simp at hy; subst hy
          exact ⟨by show (1 : Int) ≤ 1; omega, by show (0 : Int) ≤ k; omega, by show (k : Int) + 1 ≤ _; omega, fun i h1 h2 => by
            have h1 : (k : Int) ≤ i := h1
            have h2 : (i : Int) < k + 1 := h2
            have : i = k := by omega
            subst this; exact ⟨hk, rfl⟩⟩
      · rcases get_snoc_lt hz with ⟨q, hz'⟩ | ⟨q, hz'⟩
        · rw [List.getElem?_append_left (by omega)] at hy
          exact h.next i y z hy hz'
        · subst hz'
          have q' : i = pre.length := by simp at q; omega
          rw [List.getElem?_append_left (by simp; omega), List.getElem?_append_right (by omega), q'] at hy
          simp at hy; subst hy
          exact ⟨x3, fun hh => hj ⟨hh.1.symm, hh.2.symm⟩⟩
      · rw [expandR_app, expandR_app, pgsA, if_pos hk, ← hall]
        simp [expandR, pagesR]
theorem goodR (R : Nat → Int) (k : Nat) : GoodR R k (runsK R k) := by
  induction k with
  | zero => exact ⟨fun x hx => (by cases hx), fun i y x hy => by simp [runsK_zero] at hy, rfl⟩
  | succ k ih =>
    by_cases h : 0 ≤ R k
    · rw [runsK_yes rfl h]; exact ih.step h
    · rw [runsK_no (by omega)]; exact ih.skip (by omega)
end Go.Proofs.Ytehdaiagkonekaa

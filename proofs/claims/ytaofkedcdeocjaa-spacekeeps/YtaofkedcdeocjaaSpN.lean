/-
  A process's tables: how many there are (plain).
-/
import Derived.Test.YtaofkedcdeocjaaSpL
namespace Go.Proofs.Ytaofkedcdeocjaa
open Go.ChangeShapes Go.WideShapes Go.ChangeAt Go.RowKit

theorem addP_new {l : List Int} {x : Int} (h0 : x ≠ 0) (hx : x ∉ l) : addP l x = l ++ [x] := by unfold addP; rw [if_neg (by simp [h0, hx])]
theorem addP_zero (l : List Int) : addP l 0 = l := by unfold addP; rw [if_pos (Or.inl rfl)]
/-- A list with one more, f. -/
def More (f : Int) (a a' : List Int) : Prop := (∀ x, x ≠ f → (x ∈ a ↔ x ∈ a')) ∧ a'.length = a.length + 1
theorem More.add {f : Int} {a a' : List Int} (h : More f a a') {x : Int} (hx : x ≠ f) : More f (addP a x) (addP a' x) := by
  unfold addP
  by_cases h0 : x = 0 ∨ x ∈ a
  · have h0' : x = 0 ∨ x ∈ a' := h0.imp id (h.1 x hx).1
    rw [if_pos h0, if_pos h0']; exact h
  · have h0' : ¬ (x = 0 ∨ x ∈ a') := fun hh => h0 (hh.imp id (h.1 x hx).2)
    rw [if_neg h0, if_neg h0']
    refine ⟨fun z hz => ?_, by simp [h.2]⟩
    rw [List.mem_append, List.mem_append, h.1 z hz]
theorem More.fold {f : Int} : ∀ (l : List Int) {a a' : List Int}, More f a a' → (∀ x ∈ l, x ≠ f) → More f (l.foldl addP a) (l.foldl addP a')
  | [], _, _, h, _ => h
  | x :: l, _, _, h, hl => More.fold l (h.add (hl x (List.mem_cons_self ..))) (fun y hy => hl y (List.mem_cons_of_mem _ hy))
theorem fold_mem : ∀ (l acc : List Int) {x : Int}, x ∈ l.foldl addP acc → x ∈ acc ∨ x ∈ l
  | [], _, _, h => Or.inl h
  | y :: l, acc, x, h => by
    rcases fold_mem l (addP acc y) h with h | h
    · unfold addP at h
      split at h
      · exact Or.inl h
      · rcases List.mem_append.1 h with h | h
        · exact Or.inl h
        · rw [List.mem_singleton] at h; subst h; exact Or.inr (List.mem_cons_self ..)
    · exact Or.inr (List.mem_cons_of_mem _ h)
/-- A place that had none has a new one: one more. -/
theorem fold_set {l : List Int} {n : Nat} {f : Int} (hn : n < l.length) (h0 : l[n]? = some 0) (hf : f ≠ 0) (hno : ∀ x ∈ l, x ≠ f) : ((l.set n f).foldl addP []).length = (l.foldl addP []).length + 1 := by
  obtain ⟨_, h0'⟩ := List.getElem?_eq_some_iff.1 h0
  have e1 : l = l.take n ++ 0 :: l.drop (n + 1) := by
    rw [← h0', ← List.drop_eq_getElem_cons hn, List.take_append_drop]
  have e2 : l.set n f = l.take n ++ f :: l.drop (n + 1) := by rw [List.set_eq_take_append_cons_drop, if_pos hn]
  have hA : f ∉ (l.take n).foldl addP [] := fun h => by
    rcases fold_mem _ _ h with h | h
    · cases h
    · exact hno f (List.mem_of_mem_take h) rfl
  have s1 : l.foldl addP [] = (l.drop (n + 1)).foldl addP ((l.take n).foldl addP []) := by
    conv => lhs; rw [e1]
    rw [List.foldl_append, List.foldl_cons]
    rw [addP_zero]
  have s2 : (l.set n f).foldl addP [] = (l.drop (n + 1)).foldl addP ((l.take n).foldl addP [] ++ [f]) := by
    rw [e2, List.foldl_append, List.foldl_cons]
    rw [addP_new hf hA]
  rw [s1, s2]
  refine (More.fold (l.drop (n + 1)) (a := (l.take n).foldl addP []) (a' := (l.take n).foldl addP [] ++ [f]) ⟨fun x hx => ?_, by simp⟩ (fun x hx => hno x (List.mem_of_mem_drop hx))).2
  rw [List.mem_append, List.mem_singleton]
  exact ⟨Or.inl, fun h => h.resolve_right hx⟩

theorem pre_setUp (S : SS) (f : Int) {i : Nat} (hi : i < 4) : (S.setUp i f).pre 4 = (S.pre 4).set (2 + 9 * i) f ∧ (S.pre 4)[2 + 9 * i]? = some (S.up i) := by
  rcases (by omega : i = 0 ∨ i = 1 ∨ i = 2 ∨ i = 3) with rfl | rfl | rfl | rfl <;> exact ⟨by kernel_rfl, by kernel_rfl⟩
theorem pre_setLa (S : SS) (f : Int) {k : Nat} (hk : k < 32) : (S.setLa k f).pre 4 = (S.pre 4).set (3 + 9 * (k / 8) + k % 8) f ∧ (S.pre 4)[3 + 9 * (k / 8) + k % 8]? = some (S.la k) := by
  rcases (by omega : k = 0 ∨ k = 1 ∨ k = 2 ∨ k = 3 ∨ k = 4 ∨ k = 5 ∨ k = 6 ∨ k = 7 ∨ k = 8 ∨ k = 9 ∨ k = 10 ∨ k = 11 ∨ k = 12 ∨ k = 13 ∨ k = 14 ∨ k = 15 ∨ k = 16 ∨ k = 17 ∨ k = 18 ∨ k = 19 ∨ k = 20 ∨ k = 21 ∨ k = 22 ∨ k = 23 ∨ k = 24 ∨ k = 25 ∨ k = 26 ∨ k = 27 ∨ k = 28 ∨ k = 29 ∨ k = 30 ∨ k = 31) with rfl | rfl | rfl | rfl | rfl | rfl | rfl | rfl | rfl | rfl | rfl | rfl | rfl | rfl | rfl | rfl | rfl | rfl | rfl | rfl | rfl | rfl | rfl | rfl | rfl | rfl | rfl | rfl | rfl | rfl | rfl | rfl <;> exact ⟨by kernel_rfl, by kernel_rfl⟩
theorem YInv.pre0 {y : YS} (h : YInv y) : ∀ x ∈ y.S.pre 4, x = 0 ∨ y.s.had x := by
  intro x hx
  unfold SS.pre at hx
  rcases List.mem_append.1 hx with hx | hx
  · simp at hx
    rcases hx with rfl | rfl
    · exact Or.inr h.kern
    · exact Or.inr h.user
  · obtain ⟨i, _, hx⟩ := List.mem_flatMap.1 hx
    unfold SS.row at hx
    rcases List.mem_cons.1 hx with rfl | hx
    · exact h.up i
    · obtain ⟨j, _, rfl⟩ := List.mem_map.1 hx
      exact h.la _
theorem tabs_setUp {y : YS} (h : YInv y) {f i : Nat} (hL : Least y.s f) (hi : i < 4) (h0 : y.S.up i = 0) : (y.S.setUp i f).tabs.length = y.S.tabs.length + 1 := by
  obtain ⟨e1, e2⟩ := pre_setUp y.S f hi
  rw [h0] at e2
  unfold SS.tabs
  rw [e1]
  exact fold_set (by rw [pre_len]; omega) e2 (by have := hL.lo; omega) (fun x hx => (least_ne hL (h.pre0 x hx)).symm)
theorem tabs_setLa {y : YS} (h : YInv y) {f k : Nat} (hL : Least y.s f) (hk : k < 32) (h0 : y.S.la k = 0) : (y.S.setLa k f).tabs.length = y.S.tabs.length + 1 := by
  obtain ⟨e1, e2⟩ := pre_setLa y.S f hk
  rw [h0] at e2
  unfold SS.tabs
  rw [e1]
  exact fold_set (by rw [pre_len]; omega) e2 (by have := hL.lo; omega) (fun x hx => (least_ne hL (h.pre0 x hx)).symm)
/-- A set takes as many tables as it needs. -/
theorem tabs_set {y : YS} (h : YInv y) {page : Int} (hm : y.may page = true) (x : Int) : (y.set page x).S.tabs.length = y.S.tabs.length + y.S.need [page] := by
  have hp : y.S.hasP page = true := by simp only [YS.may, Bool.and_eq_true] at hm; exact hm.1
  obtain ⟨_, p0, p1⟩ := (hasP_iff _ _).1 hp
  have hu := may_up hm
  have hl := may_la hm
  have i4 : (page / 64).toNat < 4 := by omega
  have j8 : (page / 8 % 8).toNat < 8 := by omega
  have h1 := h.up1 _ (by omega : (page / 64).toNat < 8) hu
  rw [need_is hp]
  have eU : (y.up1 (page / 64).toNat).S.tabs.length = y.S.tabs.length + (if y.S.up (page / 64).toNat = 0 then 1 else 0) := by
    by_cases h0 : y.S.up (page / 64).toNat = 0
    · rw [if_pos h0]
      have := tabs_setUp h (least_left (hu h0)) i4 h0
      unfold YS.up1; rw [if_pos h0]; exact this
    · rw [if_neg h0]; unfold YS.up1; rw [if_neg h0]; rfl
  have eL : ((y.up1 (page / 64).toNat).la1 (page / 64).toNat (page / 8 % 8).toNat).S.tabs.length = (y.up1 (page / 64).toNat).S.tabs.length + (if y.S.la ((page / 64).toNat * 8 + (page / 8 % 8).toNat) = 0 then 1 else 0) := by
    rw [← up1_la y (page / 64).toNat]
    by_cases h0 : (y.up1 (page / 64).toNat).S.la ((page / 64).toNat * 8 + (page / 8 % 8).toNat) = 0
    · rw [if_pos h0]
      have := tabs_setLa h1 (least_left (hl h0)) (by omega) h0
      unfold YS.la1; rw [if_pos h0]; exact this
    · rw [if_neg h0]; unfold YS.la1; rw [if_neg h0]; rfl
  show ((y.up1 (page / 64).toNat).la1 (page / 64).toNat (page / 8 % 8).toNat).S.tabs.length = _
  rw [eL, eU]; omega
end Go.Proofs.Ytaofkedcdeocjaa

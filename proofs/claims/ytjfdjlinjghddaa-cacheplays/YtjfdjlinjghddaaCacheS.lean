/-
  Caches as plain lists: a set is its lines, the eldest first.
-/
import Derived.Test.YtjfdjlinjghddaaCore
namespace Go.Proofs.Ytjfdjlinjghddaa

/-- What a way shows. -/
def wy (l : List Int) (j : Nat) : Int := (l[j]?).getD (-1)
/-- A line's place. -/
def pl (l : List Int) (x : Int) : Int := if x ∈ l then (l.idxOf x : Int) else -1
/-- A line comes into a set of V ways. -/
def sput (l : List Int) (x : Int) (V : Nat) : List Int := if x ∈ l then l else (l ++ [x]).drop (l.length + 1 - V)

/-- All sets of a cache. -/
abbrev Sets := Nat → List Int
def Sets.put (S : Sets) (K V : Nat) (x : Int) : Sets := fun k => if k = (x % (K : Int)).toNat then sput (S k) x V else S k
def Sets.cut (S : Sets) (K : Nat) (x : Int) : Sets := fun k => if k = (x % (K : Int)).toNat then (S k).erase x else S k
/-- What place i shows. -/
def tg (S : Sets) (V : Nat) (i : Nat) : Int := wy (S (i / V)) (i % V)
def Sets.has (S : Sets) (K : Nat) (x : Int) : Bool := decide (x ∈ S (x % (K : Int)).toNat)

/-- Sets that may be. -/
structure SOK (K V : Nat) (S : Sets) : Prop where
  len : ∀ k, (S k).length ≤ V
  nn : ∀ k, ∀ x ∈ S k, 0 ≤ x
  mod : ∀ k, ∀ x ∈ S k, x % (K : Int) = k
  nd : ∀ k, (S k).Nodup

theorem SOK.none (K V : Nat) : SOK K V (fun _ => []) :=
  ⟨fun _ => Nat.zero_le _, fun _ _ h => by simp at h, fun _ _ h => by simp at h, fun _ => List.nodup_nil⟩

theorem sput_len (l : List Int) (x : Int) (V : Nat) (h : l.length ≤ V) : (sput l x V).length ≤ V := by
  unfold sput; split
  · exact h
  · simp; omega
theorem mem_sput (l : List Int) (x y : Int) (V : Nat) (h : y ∈ sput l x V) : y ∈ l ∨ y = x := by
  unfold sput at h; split at h
  · exact Or.inl h
  · have := List.mem_of_mem_drop h
    simpa using this
theorem sput_nd (l : List Int) (x : Int) (V : Nat) (h : l.Nodup) : (sput l x V).Nodup := by
  unfold sput; split
  · exact h
  · rename_i hx
    have h2 : (l ++ [x]).Nodup := by
      rw [List.nodup_append]
      exact ⟨h, by simp, fun a ha b hb => by simp at hb; subst hb; exact fun e => hx (e ▸ ha)⟩
    exact h2.sublist (List.drop_sublist _ _)

theorem SOK.put {K V : Nat} {S : Sets} (h : SOK K V S) (hK : 1 ≤ K) (x : Int) (hx : 0 ≤ x) : SOK K V (S.put K V x) := by
  have hm := Int.emod_nonneg x (b := (K : Int)) (by omega)
  refine ⟨fun k => ?_, fun k y hy => ?_, fun k y hy => ?_, fun k => ?_⟩
  · unfold Sets.put; split
    · exact sput_len _ _ _ (h.len k)
    · exact h.len k
  · unfold Sets.put at hy; split at hy
    · rcases mem_sput _ _ _ _ hy with hy | rfl
      · exact h.nn k y hy
      · exact hx
    · exact h.nn k y hy
  · unfold Sets.put at hy; split at hy
    · rename_i e
      rcases mem_sput _ _ _ _ hy with hy | rfl
      · exact h.mod k y hy
      · omega
    · exact h.mod k y hy
  · unfold Sets.put; split
    · exact sput_nd _ _ _ (h.nd k)
    · exact h.nd k
theorem SOK.cut {K V : Nat} {S : Sets} (h : SOK K V S) (x : Int) : SOK K V (S.cut K x) := by
  have hsub : ∀ k, (S.cut K x k).Sublist (S k) := fun k => by
    unfold Sets.cut; split
    · exact List.erase_sublist
    · exact List.Sublist.refl _
  exact ⟨fun k => Nat.le_trans (hsub k).length_le (h.len k), fun k y hy => h.nn k y ((hsub k).subset hy), fun k y hy => h.mod k y ((hsub k).subset hy), fun k => (h.nd k).sublist (hsub k)⟩

theorem Sets.cut_none {S : Sets} {K : Nat} {x : Int} (h : S.has K x = false) : S.cut K x = S := by
  funext k; unfold Sets.cut; split
  · rename_i e; subst e
    exact List.erase_of_not_mem (by simpa [Sets.has] using h)
  · rfl
theorem Sets.put_has {S : Sets} {K V : Nat} {x : Int} (h : S.has K x = true) : S.put K V x = S := by
  funext k; unfold Sets.put; split
  · rename_i e; subst e
    unfold sput; rw [if_pos (by simpa [Sets.has] using h)]
  · rfl

theorem wy_nn {l : List Int} (h : ∀ x ∈ l, 0 ≤ x) (j : Nat) : wy l j = -1 ↔ l.length ≤ j := by
  unfold wy
  by_cases hj : j < l.length
  · rw [List.getElem?_eq_getElem hj]
    have := h _ (List.getElem_mem hj)
    simp only [Option.getD_some]
    omega
  · rw [List.getElem?_eq_none (by omega)]
    simp; omega
theorem wy_eq {l : List Int} {x : Int} (hx : 0 ≤ x) (j : Nat) : wy l j = x ↔ l[j]? = some x := by
  unfold wy
  cases h : l[j]? with
  | none => simp; omega
  | some y => simp
theorem pl_yes {l : List Int} {x : Int} (h : x ∈ l) : pl l x = l.idxOf x := if_pos h
theorem pl_no {l : List Int} {x : Int} (h : x ∉ l) : pl l x = -1 := if_neg h
theorem pl_nn (l : List Int) (x : Int) : decide (0 ≤ pl l x) = decide (x ∈ l) := by
  by_cases h : x ∈ l
  · rw [pl_yes h]; simp [h]
  · rw [pl_no h]; simp [h]
theorem idxOf_first {l : List Int} {x : Int} (hm : x ∈ l) (hx : 0 ≤ x) : l.idxOf x < l.length ∧ wy l (l.idxOf x) = x ∧ ∀ j, j < l.idxOf x → wy l j ≠ x := by
  have hlt := List.idxOf_lt_length_of_mem hm
  refine ⟨hlt, (wy_eq hx _).2 ?_, fun j hj hw => ?_⟩
  · rw [List.getElem?_eq_getElem hlt]; simp
  · have h2 := (wy_eq hx j).1 hw
    have := List.not_of_lt_findIdx (xs := l) (p := (· == x)) hj
    rw [List.getElem?_eq_getElem (by omega)] at h2
    simp at h2
    simp [h2] at this
theorem wy_not {l : List Int} {x : Int} (hm : x ∉ l) (hx : 0 ≤ x) (j : Nat) : wy l j ≠ x := fun h =>
  hm (List.mem_of_getElem? ((wy_eq hx j).1 h))

/-- Where a line leaves. -/
theorem wy_erase {l : List Int} {x : Int} (hm : x ∈ l) (V : Nat) (hl : l.length ≤ V) (j : Nat) (hj : j < V) : wy (l.erase x) j = if j < l.idxOf x then wy l j else if j + 1 < V then wy l (j + 1) else -1 := by
  have hlt := List.idxOf_lt_length_of_mem hm
  rw [List.erase_eq_eraseIdx_of_idxOf (i := l.idxOf x) rfl]
  unfold wy
  rw [List.getElem?_eraseIdx]
  split
  · rfl
  · split
    · rfl
    · rw [List.getElem?_eq_none (by omega)]; rfl
/-- Where one comes in. -/
theorem wy_put_room {l : List Int} {x : Int} (hm : x ∉ l) (V : Nat) (hl : l.length < V) (j : Nat) : wy (sput l x V) j = if j = l.length then x else wy l j := by
  unfold sput wy
  rw [if_neg hm, show l.length + 1 - V = 0 by omega, List.drop_zero, List.getElem?_append]
  by_cases h1 : j < l.length
  · rw [if_pos h1, if_neg (by omega)]
  · rw [if_neg h1]
    by_cases h2 : j = l.length
    · subst h2; simp
    · rw [if_neg h2, List.getElem?_eq_none (by simp; omega), List.getElem?_eq_none (by omega)]
theorem wy_put_full {l : List Int} {x : Int} (hm : x ∉ l) (V : Nat) (hl : l.length = V) (j : Nat) (hj : j < V) : wy (sput l x V) j = if j + 1 < V then wy l (j + 1) else x := by
  unfold sput wy
  rw [if_neg hm, show l.length + 1 - V = 1 by omega, List.getElem?_drop, List.getElem?_append]
  by_cases h1 : 1 + j < l.length
  · rw [if_pos h1, if_pos (by omega), Nat.add_comm]
  · rw [if_neg h1, if_neg (by omega), show 1 + j - l.length = 0 by omega]; rfl

/-- Caches: of each CPU, and what all share. -/
structure CQ where
  n : Nat
  F : Nat → Sets
  Sh : Sets

namespace CQ
def fresh (n : Nat) : CQ := ⟨n, fun _ _ => [], fun _ => []⟩
def many (c : Int) : Nat := (min (max c 1) 2).toNat
def hasC (q : CQ) (u : Int) : Bool := decide (0 ≤ u) && decide (u < q.n)
def may (q : CQ) (u x : Int) : Bool := q.hasC u && decide (0 ≤ x)
def near (q : CQ) (u x : Int) : Bool := q.may u x && (q.F u.toNat).has 4 x
def touch (q : CQ) (u x : Int) : CQ := if q.may u x = true then { q with F := fun i => if i = u.toNat then (q.F i).put 4 2 x else q.F i, Sh := q.Sh.put 8 4 x } else q
def evict (q : CQ) (u x : Int) : CQ := if q.may u x = true then { q with F := fun i => if i = u.toNat then (q.F i).cut 4 x else q.F i } else q
def clear (q : CQ) (x : Int) : CQ := if 0 ≤ x then { q with F := fun i => if i < q.n then (q.F i).cut 4 x else q.F i, Sh := q.Sh.cut 8 x } else q
/-- Is it in one of the first k? -/
def anyF (q : CQ) (x : Int) : Nat → Bool
  | 0 => false
  | k + 1 => q.anyF x k || (q.F k).has 4 x
def cleared (q : CQ) (x : Int) : Bool := decide (0 ≤ x) && (q.Sh.has 8 x || q.anyF x q.n)

theorem hasC_iff (q : CQ) (u : Int) : q.hasC u = true ↔ 0 ≤ u ∧ u < q.n := by simp [hasC]
theorem hasC_no (q : CQ) (u : Int) : q.hasC u = false ↔ u < 0 ∨ q.n ≤ u := by rw [Bool.eq_false_iff, Ne, hasC_iff]; omega
theorem touch_n (q : CQ) (u x : Int) : (q.touch u x).n = q.n := by unfold touch; split <;> rfl
theorem evict_n (q : CQ) (u x : Int) : (q.evict u x).n = q.n := by unfold evict; split <;> rfl
theorem clear_n (q : CQ) (x : Int) : (q.clear x).n = q.n := by unfold clear; split <;> rfl
theorem many_b (c : Int) : 1 ≤ many c ∧ many c ≤ 2 := by unfold many; omega
end CQ
end Go.Proofs.Ytjfdjlinjghddaa

/-
  Translations as plain things: an item, a list of them as cells, what is put, dropped, forgotten.
-/
import Derived.Test.YtleeodpnamnnfaaCore
import Derived.Test.YtleeodpnamnnfaaRows3
import Derived.WalkKit
import Derived.Deep.DeepCutAuto
namespace Go.Proofs.Ytleeodpnamnnfaa
open Go.RowKit

structure It where
  pc : Int
  pg : Int
  fr : Int
  wr : Bool
  us : Bool
  gl : Bool
  deriving DecidableEq

namespace It
def zero : It := ⟨0, 0, 0, false, false, false⟩
def vs (x : It) : List Value := [.int .i64 x.pc, .int .i64 x.pg, .int .i64 x.fr, .bool x.wr, .bool x.us, .bool x.gl]
def serves (x : It) (pcid page : Int) : Bool := decide (x.pg = page) && (decide (x.pc = pcid) || x.gl)
def ofName (x : It) (pcid : Int) : Bool := decide (x.pc = pcid) && !x.gl
/-- As a value. -/
abbrev V (x : It) : Value := .agg #[.int .i64 x.pc, .int .i64 x.pg, .int .i64 x.fr, .bool x.wr, .bool x.us, .bool x.gl]
theorem vs_len (x : It) : x.vs.length = 6 := rfl
end It

/-- All cells of a list. -/
def flat : List It → List Value
  | [] => []
  | x :: l => x.vs ++ flat l
theorem flat_len (l : List It) : (flat l).length = l.length * 6 := by
  induction l with
  | nil => rfl
  | cons x l ih => simp only [flat, List.length_append, ih, It.vs_len, List.length_cons]; omega
theorem flat_app (l k : List It) : flat (l ++ k) = flat l ++ flat k := by
  induction l with
  | nil => rfl
  | cons x l ih => simp only [List.cons_append, flat, ih, List.append_assoc]
theorem flat_one (x : It) : flat [x] = x.vs := by simp [flat]
theorem flat_get (l : List It) : ∀ {i j : Nat} {x : It}, l[i]? = some x → j < 6 → (flat l)[i * 6 + j]? = x.vs[j]? := by
  induction l with
  | nil => intro i j x h; simp at h
  | cons y l ih =>
    intro i j x h hj
    match i with
    | 0 =>
      simp at h; subst h
      simp only [flat, Nat.zero_mul, Nat.zero_add]
      rw [List.getElem?_append_left (by rw [It.vs_len]; exact hj)]
    | i + 1 =>
      simp only [flat]
      rw [List.getElem?_append_right (by rw [It.vs_len]; omega), It.vs_len, show (i + 1) * 6 + j - 6 = i * 6 + j by omega]
      exact ih (by simpa using h) hj
theorem flat_one' (l : List It) : ∀ v ∈ flat l, v.oneCell' = true := by
  induction l with
  | nil => intro v h; simp [flat] at h
  | cons x l ih =>
    intro v h
    rw [flat, List.mem_append] at h
    rcases h with h | h
    · simp [It.vs] at h; rcases h with rfl | rfl | rfl | rfl | rfl | rfl <;> rfl
    · exact ih v h

/-- What stays where those of which p holds go. -/
def drops (p : It → Bool) (l : List It) : List It := l.filter (fun x => !p x)
def dropPage (pcid page : Int) (l : List It) : List It := drops (fun x => x.serves pcid page) l
def dropName (pcid : Int) (l : List It) : List It := drops (fun x => x.ofName pcid) l
def put (x : It) (l : List It) : List It :=
  if (dropPage x.pc x.pg l).length < 8 then dropPage x.pc x.pg l ++ [x] else (dropPage x.pc x.pg l ++ [x]).drop 1
def findI (pcid page : Int) (l : List It) : Option It := l.find? (fun x => x.serves pcid page)

theorem drops_len (p : It → Bool) (l : List It) : (drops p l).length ≤ l.length := List.length_filter_le _ _
theorem put_len (x : It) (l : List It) (h : l.length ≤ 8) : (put x l).length ≤ 8 ∧ 1 ≤ (put x l).length := by
  have := drops_len (fun y => y.serves x.pc x.pg) l
  unfold put dropPage
  split <;> simp <;> omega

end Go.Proofs.Ytleeodpnamnnfaa

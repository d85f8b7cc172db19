/-
  Package pipe: the document's example; Same[uint64]; words one behind the other.
-/
import Derived.Test.YtjaeapegcjhgfaaPipeB
import Derived.Deep.QuietTactic
import Derived.BigQuiet
namespace Go.Proofs.Ytjaeapegcjhgfaa
open Go.ChangeShapes Go.WideShapes Go.ChangeAt Go.RowKit

theorem wakes13 (w : World) : Calls Try.prog 12 #[] w fun e w' => e = .returned (.bool true) ∧ Touch Nil w w' := by
  go_enter Try.func12, Try.ntmps12
  go_wp2_with fail
  with_reducible refine (pnew_any w).mono ?_
  rintro e w1 ⟨rfl, h1, t1, s1⟩
  obtain ⟨B, hB⟩ : ∃ B, Hid (B = w.heap.size) := ⟨_, rfl⟩
  have hB1 : w.heap.size ≤ B := by have := hB.out; omega
  rw [← hB.out] at h1 ⊢
  clear s1 hB
  have hr := precv_none h1
  go_wp2_with fail
  with_reducible refine hr.mono ?_
  rintro e wq ⟨rfl, rfl⟩
  have hs := psend_any h1 1
  simp only [List.length_nil, List.nil_append, show (0 : Nat) < 4 from by omega, if_true, decide_true] at hs
  clear hr h1
  go_wp2_with fail
  with_reducible refine hs.mono ?_
  rintro e w2 ⟨rfl, h2, t2⟩
  have hl := plen_any h2
  have T2 := t1.transNew t2 (fun i hi e => by omega)
  clear hs h2 t1 t2
  go_wp2_with fail
  with_reducible refine hl.mono ?_
  rintro e wq ⟨rfl, rfl⟩
  go_wp2_with fail
  go_ret
  exact ⟨rfl, T2⟩
/-- x, x + 1, .. : k words. -/
def seqL (x : Int) (k : Nat) : List Int := (List.range k).map (fun (j : Nat) => IntKind.u64.wrap (x + j))
theorem seqL_len (x : Int) (k : Nat) : (seqL x k).length = k := by simp [seqL]
theorem seqL_succ (x : Int) (k : Nat) : seqL x (k + 1) = seqL x k ++ [IntKind.u64.wrap (x + k)] := by simp [seqL, List.range_succ]
theorem seqL_drop (x : Int) {k n : Nat} (h : k < n) : (seqL x n).drop k = IntKind.u64.wrap (x + k) :: (seqL x n).drop (k + 1) := by
  have hl : k < (seqL x n).length := by rw [seqL_len]; exact h
  rw [List.drop_eq_getElem_cons hl]
  simp [seqL]
end Go.Proofs.Ytjaeapegcjhgfaa

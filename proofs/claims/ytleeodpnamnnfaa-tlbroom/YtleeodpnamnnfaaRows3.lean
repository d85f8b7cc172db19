/-
  Rows of the call's own behind what turns other blocks; a quotient's bounds.
-/
import Derived.Test.YtleeodpnamnnfaaCore
import Derived.Deep.Draws
import Derived.Laws.AppendOwn
namespace Go.Proofs.Ytleeodpnamnnfaa
open Go.RowKit

/-- A row of the call's own behind what turns elder blocks alone. -/
theorem ownsRow_touch {w w' : World} {base size : Nat} {e : TypeId} {v : Value} {n : Nat} {xs : List Value} {S : Nat → Prop} (h : w.ownsRow base e size v n xs) (t : Touch S w w') (hs : ∀ k, S k → k < base) : w'.ownsRow base e size v n xs := by
  obtain ⟨hl, hv⟩ := h
  refine ⟨hl, hv.imp id ?_⟩
  rintro ⟨g, cap, cur, h1, h2, h3, h4⟩
  have hlt : g < w.heap.size := by
    by_cases q : g < w.heap.size
    · exact q
    · rw [Array.getElem?_eq_none (by omega)] at h3; cases h3
  exact ⟨g, cap, cur, h1, h2, (t.block g hlt (fun q => by have := hs g q; omega)).trans h3, h4⟩
theorem Touch.ofGrown' {w w' : World} {o : Option Nat} (h : w.grownBy w' o) : Touch (fun k => o = some k) w w' :=
  ⟨h.os, h.tape, h.output, h.size, fun k hk hs => h.block k hk (fun e => hs e.symm)⟩

theorem Touch.drews {S : Nat → Prop} {w w' : World} (h : Touch S w w') (n : Nat) : Touch S w (w'.drewN n) := ⟨h.os, h.tape, h.output, h.size, h.block⟩

theorem tdiv_two (a : Int) (n : Int) (h : 1 ≤ n) : a.tdiv n = a / n ∨ a.tdiv n = a / n + 1 := by
  have e := Int.tdiv_eq_ediv (a := a) (b := n)
  split at e
  · left; omega
  · right; rw [e, Int.sign_eq_one_of_pos (by omega)]

end Go.Proofs.Ytleeodpnamnnfaa

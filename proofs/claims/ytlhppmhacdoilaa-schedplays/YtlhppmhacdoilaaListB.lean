/-
  Lists of numbers of the call's own, side by side: each in a block of its own, which alone (or a new one) is turned by one more.
-/
import Derived.Test.YtlhppmhacdoilaaRows2
import Derived.Test.YtlhppmhacdoilaaKeep
import Derived.Deep.Upon
import Derived.ArgAppend
namespace Go.Proofs.Ytlhppmhacdoilaa
open Go.ChangeShapes Go.WideShapes Go.ChangeAt Go.RowKit

def nlist (l : List Int) : List Value := l.map (fun x => Value.int .i64 x)
theorem nlist_len (l : List Int) : (nlist l).length = l.length := by simp [nlist]
theorem nlist_get (l : List Int) {i : Nat} (h : i < l.length) : (nlist l)[i]? = some (.int .i64 (l.getD i 0)) := by
  simp [nlist, h, List.getD_eq_getElem?_getD]
/-- The block of an address. -/
def blkA (a : Option Addr) (k : Nat) : Prop := ∃ o, a = some ⟨k, o, none⟩
/-- It is nil, or lies in a block of its own, with its spare room. -/
def NL (w : World) (a : Option Addr) (cap : Nat) (l : List Int) : Prop :=
  (a = none ∧ cap = 0 ∧ l = []) ∨ ∃ g m f, a = some ⟨g, 0, none⟩ ∧ l.length ≤ cap ∧ cap ≤ maxLen ∧ rowHas w g 3 m f ∧ cap ≤ m ∧ ∀ i, i < l.length → f i = .int .i64 (l.getD i 0)
theorem NL.nil (w : World) : NL w none 0 [] := Or.inl ⟨rfl, rfl, rfl⟩
theorem NL.touch {w w' : World} {cap : Nat} {a : Option Addr} {l : List Int} {S : Nat → Prop} (h : NL w a cap l) (t : Touch S w w') (hs : ∀ k, blkA a k → ¬ S k) : NL w' a cap l := by
  rcases h with h | ⟨g, m, f, h1, h3, h4, h5, h6, h8⟩
  · exact Or.inl h
  · exact Or.inr ⟨g, m, f, h1, h3, h4, h5.touch t (hs g ⟨0, h1⟩), h6, h8⟩
theorem NL.lt {w : World} {cap : Nat} {a : Option Addr} {l : List Int} (h : NL w a cap l) {k : Nat} (hk : blkA a k) : k < w.heap.size := by
  obtain ⟨o, e⟩ := hk
  rcases h with ⟨h, _⟩ | ⟨g, m, f, h1, h3, h4, h5, h6, h8⟩
  · rw [h] at e; cases e
  · rw [h1] at e; cases e; exact h5.lt
theorem NL.cells {w : World} {cap : Nat} {a : Option Addr} {l : List Int} (h : NL w a cap l) : l = [] ∨ ∃ g, a = some ⟨g, 0, none⟩ ∧ g < w.heap.size ∧ ∀ i, i < l.length → w.cell? ⟨g, i, none⟩ = some (.int .i64 (l.getD i 0)) := by
  rcases h with h | ⟨g, m, f, h1, h3, h4, h5, h6, h8⟩
  · exact Or.inl h.2.2
  · exact Or.inr ⟨g, h1, h5.lt, fun i hi => by rw [h5.cell (by omega), h8 i hi]⟩
/-- One more. -/
theorem NL.app {w : World} {cap : Nat} {a : Option Addr} {l : List Int} (h : NL w a cap l) (few : l.length ≤ 1000) (x : Int) (B : Nat) (hB : w.cell? ⟨B, 0, none⟩ = some (.int .i64 x)) :
    ∃ g cap' w', (Builtin.append_ #[28, 28] 28 #[.slice a l.length cap, .slice (some ⟨B, 0, none⟩) 1 1]).run Try.prog w = .ok (.slice (some ⟨g, 0, none⟩) (l.length + 1) cap') w' ∧ NL w' (some ⟨g, 0, none⟩) cap' (l ++ [x]) ∧ Touch (fun k => blkA a k) w w' ∧ (blkA a g ∨ w.heap.size ≤ g) := by
  obtain ⟨i0, hi, hzz⟩ := Option.map_eq_some_iff.1 (show (Try.prog.info? 3).map (fun i => (i.zero, i.size, i.bytes)) = some (some (.int .i64 0), 1, 8) by kernel_rfl)
  simp only [Prod.mk.injEq] at hzz
  obtain ⟨hz0, hz1, hz2⟩ := hzz
  have ht : Try.prog.underlying 28 = some (.slice 3) := Try.underlying28
  have hnews : ∀ j u, ([.int .i64 x] : List Value)[j]? = some u → w.cell? ((⟨B, 0, none⟩ : Addr).add j) = some u := fun j u hu => by
    match j, hu with
    | 0, hu => simp at hu; subst hu; rw [Addr.add_mid]; exact hB
  have h1 : ∀ u ∈ ([.int .i64 x] : List Value), u.oneCell' = true := fun u hu => by simp at hu; subst hu; rfl
  have fin : ∀ {v' : Value} {w' : World}, w'.ownsRow w.heap.size 3 1 v' (l.length + 1) (nlist l ++ [.int .i64 x]) → ∃ g cap', v' = .slice (some ⟨g, 0, none⟩) (l.length + 1) cap' ∧ NL w' (some ⟨g, 0, none⟩) cap' (l ++ [x]) ∧ w.heap.size ≤ g := by
    intro v' w' h2
    obtain ⟨e1, e2⟩ := h2
    rcases e2 with ⟨_, e2⟩ | ⟨g, cp, cur, rfl, e3, e4, e5, e6, e7, e8⟩
    · omega
    · refine ⟨g, cp, rfl, Or.inr ⟨g, cur.size, fun i => (cur[i]?).getD (.int .i64 0), rfl, by simp; omega, e6, ?_, by omega, fun i hi => ?_⟩, e3⟩
      · exact rowHas.of ⟨cur, e4, rfl, fun i hi => by simp [hi]⟩
      · have hi' : i < (l ++ [x]).length := hi
        have e9 := nlist_get (l ++ [x]) hi'
        rw [show nlist (l ++ [x]) = nlist l ++ [.int .i64 x] by simp [nlist], ← e8, List.getElem?_take, if_pos (by simp at hi'; omega)] at e9
        simp only [Array.getElem?_toList] at e9
        show (cur[i]?).getD _ = _
        rw [e9]; rfl
  rcases h with ⟨rfl, rfl, rfl⟩ | ⟨g, m, f, rfl, h3, h4, h5, h6, h8⟩
  · obtain ⟨v', w', hr, e2, e3, _⟩ := run_append_own (P := Try.prog) w w.heap.size 28 28 3 i0 (.int .i64 0) 1 8 ht hi hz0 hz1 hz2 rfl (by decide) (.slice none 0 0) 0 [] (World.ownsRow_nil w _ _ _) ⟨B, 0, none⟩ 1 1 [.int .i64 x] rfl hnews h1 (by unfold maxLen; omega) (by omega) (Nat.le_refl _)
    obtain ⟨g, cap', rfl, hO, hg⟩ := fin e2
    exact ⟨g, cap', w', hr, hO, ⟨e3.os, e3.tape, e3.output, e3.size, fun k hk _ => e3.block k hk (by simp [Value.ownBlock])⟩, Or.inr hg⟩
  · by_cases hroom : l.length + 1 ≤ cap
    · have hsome : ∀ j, j < ([.int .i64 x] : List Value).length → (w.cell? ⟨g, 0 + l.length * i0.size + j, none⟩).isSome = true := fun j hj => by
        have e : j = 0 := by simpa using hj
        subst e
        rw [hz1, h5.cell (by omega)]; rfl
      have hr := run_append_room_cells (P := Try.prog) w 28 28 3 i0 ht hi g 0 l.length cap ⟨B, 0, none⟩ 1 1 [.int .i64 x] (by rw [hz1]; rfl) hnews h1 hroom hsome (fun j _ => h5.frozen _)
      rw [hz1, Nat.mul_one] at hr
      refine ⟨g, cap, _, hr, Or.inr ⟨g, m, _, rfl, by simp; omega, h4, h5.setCells _ _, h6, fun i hi => ?_⟩, (Touch.refl (fun k => blkA (some ⟨g, 0, none⟩) k) w).setCells ⟨0, rfl⟩ _ _, Or.inl ⟨0, rfl⟩⟩
      have hi' : i < l.length + 1 := by simpa using hi
      by_cases e : i = l.length
      · subst e
        rw [if_pos (by omega)]
        simp [List.getD_eq_getElem?_getD]
      · rw [if_neg (by omega), h8 i (by omega), List.getD_eq_getElem?_getD, List.getD_eq_getElem?_getD, List.getElem?_append_left (by omega)]
    · obtain ⟨v', w', hr, e2, e3⟩ := run_append_arg_grows (P := Try.prog) w 28 28 3 i0 (.int .i64 0) 1 8 ht hi hz0 hz1 hz2 rfl (by decide) ⟨g, 0, none⟩ l.length cap (nlist l) (by rw [nlist_len]; omega) (fun j u hu => by
          have hj : j < l.length := by
            have := (List.getElem?_eq_some_iff.1 hu).1; rwa [nlist_len] at this
          rw [nlist_get l hj] at hu
          rw [Addr.add_mid, h5.cell (by omega), Nat.zero_add, h8 j hj, hu]) ⟨B, 0, none⟩ 1 1 [.int .i64 x] rfl hnews (by omega) (by unfold maxLen; omega) (by omega)
      obtain ⟨g', cap', rfl, hO, hg⟩ := fin e2
      exact ⟨g', cap', w', hr, hO, ⟨e3.os, e3.tape, e3.output, e3.size, fun k hk _ => e3.block k hk (by simp)⟩, Or.inr hg⟩
end Go.Proofs.Ytlhppmhacdoilaa

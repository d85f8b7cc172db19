/-
  Lists of numbers of the call's own: their cells, one more. (As in SpH; for seats without a space.)
-/
import Derived.Test.YtaofkedcdeocjaaMemF
import Derived.Lib.SlFresh
namespace Go.Proofs.Ytaofkedcdeocjaa
open Go.ChangeShapes Go.WideShapes Go.ChangeAt Go.RowKit

def ilist (l : List Int) : List Value := l.map (fun x => Value.int .i64 x)
theorem ilist_len (l : List Int) : (ilist l).length = l.length := by simp [ilist]
theorem ilist_get (l : List Int) {i : Nat} (h : i < l.length) : (ilist l)[i]? = some (.int .i64 (l.getD i 0)) := by
  simp [ilist, List.getD, h]
/-- A list of the call's own, since the heap's size was base. -/
abbrev OL (w : World) (base : Nat) (a : Option Addr) (cap : Nat) (l : List Int) : Prop := w.ownsRow base 3 1 (.slice a l.length cap) l.length (ilist l)
theorem OL.cells {w : World} {base cap : Nat} {a : Option Addr} {l : List Int} (h : OL w base a cap l) : l = [] ∨ ∃ g, a = some ⟨g, 0, none⟩ ∧ base ≤ g ∧ g < w.heap.size ∧ ∀ i, i < l.length → w.cell? ⟨g, i, none⟩ = some (.int .i64 (l.getD i 0)) ∧ w.frozen? ⟨g, i, none⟩ = false := by
  by_cases hn : l = []
  · exact Or.inl hn
  · right
    have hpos := List.length_pos_iff.2 hn
    have h' := h
    obtain ⟨h1, h2⟩ := h
    rcases h2 with ⟨_, h0⟩ | ⟨g, c, cur, hv, hgb, hcur, _, _, _, ht⟩
    · omega
    · cases hv
      refine ⟨g, rfl, hgb, (h'.lt g rfl).2, fun i hi => ⟨?_, h'.frozenAt i⟩⟩
      rw [h'.cellAt i (by omega), ilist_get l hi]
theorem app_int {wr : World} {base n cap : Nat} {a : Option Addr} {xs : List Value} (h0 : wr.ownsRow base 3 1 (.slice a n cap) n xs) (hb : base ≤ wr.heap.size) (few : n ≤ 1000) (x : Int) :
    ∃ g c wN, (Builtin.append_ #[22, 22] 22 #[.slice a n cap, .slice (some ⟨wr.heap.size, 0, none⟩) 1 1]).run Try.prog (wr.alloc (.cells #[.int .i64 x] 3)) = .ok (.slice (some ⟨g, 0, none⟩) (n + 1) c) wN ∧
      wN.ownsRow base 3 1 (.slice (some ⟨g, 0, none⟩) (n + 1) c) (n + 1) (xs ++ [.int .i64 x]) ∧ Below base wr wN := by
  obtain ⟨i, hi, hzz⟩ := Option.map_eq_some_iff.1 (show (Try.prog.info? 3).map (fun i => (i.zero, i.size, i.bytes)) = some (some (.int .i64 0), 1, 8) by kernel_rfl)
  simp only [Prod.mk.injEq] at hzz
  obtain ⟨hz0, hz1, hz2⟩ := hzz
  have bA := (Below.refl wr.heap.size wr).alloc (Nat.le_refl _) (.cells #[.int .i64 x] 3)
  have h1 := h0.alloc (.cells #[.int .i64 x] 3)
  obtain ⟨v', wN, hr, ho, hg, hn⟩ := run_append_own (P := Try.prog) _ base 22 22 3 i (.int .i64 0) 1 8 Try.underlying22 hi hz0 hz1 hz2 rfl (by decide) (.slice a n cap) n xs h1 ⟨wr.heap.size, 0, none⟩ 1 1 [.int .i64 x] rfl
    (fun j u hu => by
      have hj : j < 1 := (List.getElem?_eq_some_iff.1 hu).1
      obtain rfl : j = 0 := by omega
      cases hu; simp [go_sem])
    (fun u hu => by simp at hu; subst hu; rfl) (by unfold maxLen; omega) (by omega) (by simp; omega)
  obtain ⟨ho1, ho2⟩ := ho
  rcases ho2 with ⟨_, h00⟩ | ⟨g', c, cur, rfl, hgb, hcur, hc1, hc2, hc3, hc4⟩
  · omega
  · exact ⟨g', c, wN, hr, ⟨ho1, Or.inr ⟨g', c, cur, rfl, hgb, hcur, hc1, hc2, hc3, hc4⟩⟩, (bA.mono hb).grown hg (by simp; omega) (fun k hk => (h1.lt k hk).1)⟩

end Go.Proofs.Ytaofkedcdeocjaa

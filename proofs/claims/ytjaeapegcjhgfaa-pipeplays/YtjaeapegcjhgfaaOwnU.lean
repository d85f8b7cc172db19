/-
  A list of words of the call's own that is appended to, and cut at its head, again and again (OwnL's twin for uint64).
-/
import Derived.Test.YtjaeapegcjhgfaaPipeC
import Derived.Deep.Upon
import Derived.ArgAppend
namespace Go.Proofs.Ytjaeapegcjhgfaa
open Go.ChangeShapes Go.WideShapes Go.ChangeAt Go.RowKit

/-- It is nil, or lies from lo on, with its spare room. -/
def OwnU (w : World) (lo : Nat) (a : Option Addr) (cap : Nat) (l : List Int) : Prop :=
  (a = none ∧ cap = 0 ∧ l = []) ∨ ∃ g o m f, a = some ⟨g, o, none⟩ ∧ lo ≤ g ∧ l.length ≤ cap ∧ cap ≤ maxLen ∧ rowHas w g 22 m f ∧ o + cap ≤ m ∧ ∀ i, i < l.length → f (o + i) = .int .u64 (l.getD i 0)

theorem OwnU.nil (w : World) (lo : Nat) : OwnU w lo none 0 [] := Or.inl ⟨rfl, rfl, rfl⟩
theorem OwnU.touch {w w' : World} {lo cap : Nat} {a : Option Addr} {l : List Int} {S : Nat → Prop} (h : OwnU w lo a cap l) (t : Touch S w w') (hs : ∀ k, lo ≤ k → k < w.heap.size → ¬ S k) : OwnU w' lo a cap l := by
  rcases h with h | ⟨g, o, m, f, h1, h2, h3, h4, h5, h6, h8⟩
  · exact Or.inl h
  · exact Or.inr ⟨g, o, m, f, h1, h2, h3, h4, h5.touch t (hs g h2 h5.lt), h6, h8⟩
theorem OwnU.cells {w : World} {lo cap : Nat} {a : Option Addr} {l : List Int} (h : OwnU w lo a cap l) : l = [] ∨ ∃ b o, a = some ⟨b, o, none⟩ ∧ b < w.heap.size ∧ ∀ i, i < l.length → w.cell? ⟨b, o + i, none⟩ = some (.int .u64 (l.getD i 0)) := by
  rcases h with h | ⟨g, o, m, f, h1, h2, h3, h4, h5, h6, h8⟩
  · exact Or.inl h.2.2
  · exact Or.inr ⟨g, o, h1, h5.lt, fun i hi => by rw [h5.cell (by omega), h8 i hi]⟩
theorem OwnU.capLe {w : World} {lo cap : Nat} {a : Option Addr} {l : List Int} (h : OwnU w lo a cap l) : l.length ≤ cap ∧ cap ≤ maxLen := by
  rcases h with ⟨_, rfl, rfl⟩ | ⟨g, o, m, f, h1, h2, h3, h4, _⟩
  · exact ⟨Nat.le_refl _, Nat.zero_le _⟩
  · exact ⟨h3, h4⟩
theorem OwnU.drop {w : World} {lo cap : Nat} {g o : Nat} {l : List Int} (h : OwnU w lo (some ⟨g, o, none⟩) cap l) (d : Nat) (hd : d ≤ l.length) : OwnU w lo (some ⟨g, o + d, none⟩) (cap - d) (l.drop d) := by
  rcases h with ⟨h, _⟩ | ⟨g', o', m, f, h1, h2, h3, h4, h5, h6, h8⟩
  · cases h
  · cases h1
    refine Or.inr ⟨g, o + d, m, f, rfl, h2, by simp; omega, by omega, h5, by omega, fun i hi => ?_⟩
    have hi' : d + i < l.length := by simp at hi; omega
    have := h8 (d + i) hi'
    rw [show o + d + i = o + (d + i) by omega, this, List.getD_eq_getElem?_getD, List.getD_eq_getElem?_getD, List.getElem?_drop]

/-- One more. -/
theorem OwnU.append {w : World} {lo cap : Nat} {a : Option Addr} {l : List Int} (h : OwnU w lo a cap l) (hlo : lo ≤ w.heap.size) (few : l.length ≤ 64) (x : Int) (B : Nat) (hB : w.cell? ⟨B, 0, none⟩ = some (.int .u64 x)) :
    ∃ g o cap' w', (Builtin.append_ #[27, 27] 27 #[.slice a l.length cap, .slice (some ⟨B, 0, none⟩) 1 1]).run Try.prog w = .ok (.slice (some ⟨g, o, none⟩) (l.length + 1) cap') w' ∧ OwnU w' lo (some ⟨g, o, none⟩) cap' (l ++ [x]) ∧ Touch (lo ≤ ·) w w' := by
  obtain ⟨i0, hi, hz0, hz1, hz2⟩ : ∃ i, Try.prog.info? 22 = some i ∧ i.zero = some (.int .u64 0) ∧ i.size = 1 ∧ i.bytes = 8 := ⟨_, rfl, rfl, rfl, rfl⟩
  have ht : Try.prog.underlying 27 = some (.slice 22) := by kernel_rfl
  have hnews : ∀ j u, ([.int .u64 x] : List Value)[j]? = some u → w.cell? ((⟨B, 0, none⟩ : Addr).add j) = some u := fun j u hu => by
    match j, hu with
    | 0, hu => simp at hu; subst hu; rw [Addr.add_mid]; exact hB
  have h1 : ∀ u ∈ ([.int .u64 x] : List Value), u.oneCell' = true := fun u hu => by simp at hu; subst hu; rfl
  have fin : ∀ {v' : Value} {w' : World} {base : Nat}, w'.ownsRow base 22 1 v' (l.length + 1) (ulist l ++ [.int .u64 x]) → lo ≤ base → ∃ g cap', v' = .slice (some ⟨g, 0, none⟩) (l.length + 1) cap' ∧ OwnU w' lo (some ⟨g, 0, none⟩) cap' (l ++ [x]) := by
    intro v' w' base h2 hb
    obtain ⟨e1, e2⟩ := h2
    rcases e2 with ⟨_, e2⟩ | ⟨g, cp, cur, rfl, e3, e4, e5, e6, e7, e8⟩
    · omega
    · refine ⟨g, cp, rfl, Or.inr ⟨g, 0, cur.size, fun i => (cur[i]?).getD (.int .u64 0), rfl, by omega, by simp; omega, e6, ?_, by omega, fun i hi => ?_⟩⟩
      · exact rowHas.of ⟨cur, e4, rfl, fun i hi => by simp [hi]⟩
      · have hi' : i < (l ++ [x]).length := hi
        have e9 := ulist_get (l ++ [x]) hi'
        rw [show ulist (l ++ [x]) = ulist l ++ [.int .u64 x] by simp [ulist], ← e8, List.getElem?_take, if_pos (by simp at hi'; omega)] at e9
        simp only [Array.getElem?_toList] at e9
        rw [Nat.zero_add]
        show (cur[i]?).getD _ = _
        rw [e9]; rfl
  rcases h with ⟨rfl, rfl, rfl⟩ | ⟨g, o, m, f, rfl, h2, h3, h4, h5, h6, h8⟩
  · obtain ⟨v', w', hr, e2, e3, _⟩ := run_append_own (P := Try.prog) w w.heap.size 27 27 22 i0 (.int .u64 0) 1 8 ht hi hz0 hz1 hz2 rfl (by decide) (.slice none 0 0) 0 [] (World.ownsRow_nil w _ _ _) ⟨B, 0, none⟩ 1 1 [.int .u64 x] rfl hnews h1 (by unfold maxLen; omega) (by omega) (Nat.le_refl _)
    obtain ⟨g, cap', rfl, hO⟩ := fin e2 hlo
    exact ⟨g, 0, cap', w', hr, hO, ⟨e3.os, e3.tape, e3.output, e3.size, fun k hk _ => e3.block k hk (by simp [Value.ownBlock])⟩⟩
  · by_cases hroom : l.length + 1 ≤ cap
    · have hsome : ∀ j, j < ([.int .u64 x] : List Value).length → (w.cell? ⟨g, o + l.length * i0.size + j, none⟩).isSome = true := fun j hj => by
        have e : j = 0 := by simpa using hj
        subst e
        rw [hz1, h5.cell (by omega)]; rfl
      have hr := run_append_room_cells (P := Try.prog) w 27 27 22 i0 ht hi g o l.length cap ⟨B, 0, none⟩ 1 1 [.int .u64 x] (by rw [hz1]; rfl) hnews h1 hroom hsome (fun j _ => h5.frozen _)
      rw [hz1, Nat.mul_one] at hr
      refine ⟨g, o, cap, _, hr, Or.inr ⟨g, o, m, _, rfl, h2, by simp; omega, h4, h5.setCells _ _, h6, fun i hi => ?_⟩, (Touch.refl (lo ≤ ·) w).setCells h2 _ _⟩
      have hi' : i < l.length + 1 := by simpa using hi
      by_cases e : i = l.length
      · subst e
        rw [if_pos (Nat.le_refl _), Nat.sub_self]
        simp [List.getD_eq_getElem?_getD]
      · rw [if_neg (by omega), h8 i (by omega), List.getD_eq_getElem?_getD, List.getD_eq_getElem?_getD, List.getElem?_append_left (by omega)]
    · obtain ⟨v', w', hr, e2, e3⟩ := run_append_arg_grows (P := Try.prog) w 27 27 22 i0 (.int .u64 0) 1 8 ht hi hz0 hz1 hz2 rfl (by decide) ⟨g, o, none⟩ l.length cap (ulist l) (by rw [ulist_len]; omega) (fun j u hu => by
          have hj : j < l.length := by
            have := (List.getElem?_eq_some_iff.1 hu).1; rwa [ulist_len] at this
          rw [ulist_get l hj] at hu
          rw [Addr.add_mid, h5.cell (by omega), h8 j hj, hu]) ⟨B, 0, none⟩ 1 1 [.int .u64 x] rfl hnews (by omega) (by unfold maxLen; omega) (by omega)
      obtain ⟨g', cap', rfl, hO⟩ := fin e2 hlo
      exact ⟨g', 0, cap', w', hr, hO, ⟨e3.os, e3.tape, e3.output, e3.size, fun k hk _ => e3.block k hk (by simp)⟩⟩
end Go.Proofs.Ytjaeapegcjhgfaa

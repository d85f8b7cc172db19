/-
  regs: register, with, Clone, at, further, Next.
-/
import Derived.Test.YtfbmjagchjhddaaDoorRegS
import Derived.Test.YtfbmjagchjhddaaDoorInsnCk
import Derived.Lib.SlFresh
import Derived.WalkSpells
namespace Go.Proofs.YtfbmjagchjhddaaDoor
open Go.ChangeShapes Go.WideShapes Go.ChangeAt Go.RowKit

set_option maxHeartbeats 1000000 in
theorem register_any (s : RS) (a : Option Addr) (n c : Nat) (i : Int) (w : World) :
    Calls Tryd.prog 32 #[stV s a n c, .int .i64 i] w fun e w' => e = .returned (.int .u64 (s.reg i)) ∧ Below w.heap.size w w' := by
  unfold stV RS.reg
  by_cases h0 : 0 ≤ i
  · by_cases h8 : i < 8
    · rw [if_pos ⟨h0, h8⟩]
      rcases eight h0 h8 with rfl | rfl | rfl | rfl | rfl | rfl | rfl | rfl
      all_goals
        go_enter Tryd.func32, Tryd.ntmps32
        go_wp2
        go_ret
        exact ⟨rfl, (Below.refl _ w).alloc (Nat.le_refl _) _⟩
    · rw [if_neg (by omega)]
      go_enter Tryd.func32, Tryd.ntmps32
      go_wp2
      go_ret
      exact ⟨rfl, (Below.refl _ w).alloc (Nat.le_refl _) _⟩
  · rw [if_neg (by omega)]
    go_enter Tryd.func32, Tryd.ntmps32
    go_wp2
    go_ret
    exact ⟨rfl, (Below.refl _ w).alloc (Nat.le_refl _) _⟩

set_option maxHeartbeats 1000000 in
theorem with_any (s : RS) (a : Option Addr) (n c : Nat) (i v : Int) (w : World) :
    Calls Tryd.prog 31 #[stV s a n c, .int .i64 i, .int .u64 v] w fun e w' => e = .returned (stV (s.set i v) a n c) ∧ Below w.heap.size w w' := by
  obtain ⟨r, hr⟩ : ∃ r, Hid (stV (s.set i v) a n c = r) := ⟨_, rfl⟩
  rw [hr.out]
  unfold RS.set at hr
  unfold stV
  by_cases h0 : 0 ≤ i
  · by_cases h8 : i < 8
    · rw [if_pos ⟨h0, h8⟩] at hr
      rcases eight h0 h8 with rfl | rfl | rfl | rfl | rfl | rfl | rfl | rfl
      all_goals
        go_enter Tryd.func31, Tryd.ntmps31
        go_wp2
        refine bodyPost_ret (v := r) (by rw [← hr.out]; simp [results, Tryd.results31, go_sem, stV]) rfl ⟨rfl, ?_⟩
        exact ((Below.refl _ w).alloc (Nat.le_refl _) _).alloc (by simp) _
    · rw [if_neg (by omega)] at hr
      go_enter Tryd.func31, Tryd.ntmps31
      go_wp2
      refine bodyPost_ret (v := r) (by rw [← hr.out]; simp [results, Tryd.results31, go_sem, stV]) rfl ⟨rfl, ?_⟩
      exact ((Below.refl _ w).alloc (Nat.le_refl _) _).alloc (by simp) _
  · rw [if_neg (by omega)] at hr
    go_enter Tryd.func31, Tryd.ntmps31
    go_wp2
    refine bodyPost_ret (v := r) (by rw [← hr.out]; simp [results, Tryd.results31, go_sem, stV]) rfl ⟨rfl, ?_⟩
    exact ((Below.refl _ w).alloc (Nat.le_refl _) _).alloc (by simp) _

/-! ### Clone -/
/-- A slice whose elements are these instructions, in a block that is not ahead of B. -/
def IsN (w : World) (B : Nat) (a : Option Addr) (l : List Ins) : Prop := l = [] ∨ ∃ g, B ≤ g ∧ a = some ⟨g, 0, none⟩ ∧ IRow w g l
theorem IsN.toL {w : World} {B : Nat} {a : Option Addr} {l : List Ins} (h : IsN w B a l) : IsL w a l := by
  rcases h with h | ⟨g, _, h1, h2⟩
  · exact Or.inl h
  · exact Or.inr ⟨g, h1, h2⟩
theorem IsN.set {w : World} {B : Nat} {a : Option Addr} {l : List Ins} (h : IsN w B a l) {p : Addr} (hp : p.block < B) (v : Value) : IsN (w.setCell p v) B a l := by
  rcases h with h | ⟨g, hg, h1, c, e, f, h2, h3⟩
  · exact Or.inl h
  · exact Or.inr ⟨g, hg, h1, c, e, f, (Below.heap_setCell _ _ _ _ (by omega)).trans h2, h3⟩
theorem clone_run {w : World} {a : Addr} {c : Nat} {l : List Ins} (h : IsL w (some a) l) (hl : l.length ≤ 1000) :
    ∃ g' cap' w', (Builtin.append_ #[24, 24] 24 #[.slice (some ⟨w.heap.size, 0, none⟩) 0 0, .slice (some a) l.length c]).run Tryd.prog (w.alloc (.cells #[] 32)) = .ok (.slice (some ⟨g', 0, none⟩) l.length cap') w' ∧ IsN w' w.heap.size (some ⟨g', 0, none⟩) l ∧ Below w.heap.size w w' := by
  obtain ⟨i, hi, hzz⟩ := Option.map_eq_some_iff.1 (show (Tryd.prog.info? 32).map (fun i => (i.zero, i.size, i.bytes)) = some (some (insV ⟨0, 0, 0, 0⟩), 4, 32) by kernel_rfl)
  simp only [Prod.mk.injEq] at hzz
  obtain ⟨hz0, hz1, hz2⟩ := hzz
  have b0 : Below w.heap.size w (w.alloc (.cells #[] 32)) := (Below.refl _ w).alloc (Nat.le_refl _) _
  rcases h with rfl | ⟨g, hg, h⟩
  · exact ⟨w.heap.size, 0, _, run_append_nothing _ 24 24 24 32 i Tryd.underlying24 hi (some ⟨w.heap.size, 0, none⟩) 0 0 (Nat.le_refl _) _ (Src.ofSlice _ Tryd.underlying24 a 0 c [] (by simp) (fun j v hv => by simp at hv) (fun u hu => by cases hu)), Or.inl rfl, b0⟩
  · cases hg
    by_cases hn : l = []
    · subst hn
      exact ⟨w.heap.size, 0, _, run_append_nothing _ 24 24 24 32 i Tryd.underlying24 hi (some ⟨w.heap.size, 0, none⟩) 0 0 (Nat.le_refl _) _ (Src.ofSlice _ Tryd.underlying24 _ 0 c [] (by simp) (fun j v hv => by simp at hv) (fun u hu => by cases hu)), Or.inl rfl, b0⟩
    · have hpos := List.length_pos_iff.2 hn
      obtain ⟨cur, te, fr, h1, h2⟩ := h.later b0
      obtain ⟨v', w', hr, e2, e3⟩ := run_append_arg_grows (P := Tryd.prog) (w.alloc (.cells #[] 32)) 24 24 32 i (insV ⟨0, 0, 0, 0⟩) 4 32 Tryd.underlying24 hi hz0 hz1 hz2 rfl (by decide) ⟨w.heap.size, 0, none⟩ 0 0 [] (by simp) (fun j u hu => by simp at hu) ⟨g, 0, none⟩ l.length c (flatI l) (flatI_len l) (fun j u hu => by
          rw [Addr.add_mid, Nat.zero_add]; simp [World.cell?, h1, h2 j u hu]) (by omega) (by unfold maxLen; omega) (by omega)
      rw [Nat.zero_add, List.nil_append] at e2
      have hb : Below w.heap.size w w' := ⟨e3.os.trans b0.os, e3.tape.trans b0.tape, e3.output.trans b0.output, Nat.le_trans b0.size e3.size, fun k hk => (e3.block k (Nat.lt_of_lt_of_le hk b0.size) (by simp)).trans (b0.block k hk)⟩
      obtain ⟨o1, o2⟩ := e2
      rcases o2 with ⟨_, o2⟩ | ⟨g', cp, cur', rfl, o3, o4, o5, o6, o7, o8⟩
      · omega
      · have o9 : w.heap.size ≤ g' := by simp at o3; omega
        rcases IsL.own (base := w.heap.size) ⟨o1, Or.inr ⟨g', cp, cur', rfl, o9, o4, o5, o6, o7, o8⟩⟩ with hL | ⟨g2, hg2, hL⟩
        · exact absurd hL hn
        · cases hg2
          exact ⟨g', cp, w', hr, Or.inr ⟨g', o9, rfl, hL⟩, hb⟩

set_option maxRecDepth 20000 in
set_option maxHeartbeats 1000000 in
theorem iclone_any {w : World} {a : Option Addr} {c : Nat} {l : List Ins} (h : IsL w a l) (hl : l.length ≤ 1000) :
    Calls Tryd.prog 44 #[.slice a l.length c] w fun e w' => ∃ a' c', e = .returned (.slice a' l.length c') ∧ IsN w' w.heap.size a' l ∧ Below w.heap.size w w' := by
  have he := fun w => Lib.run_eql_slice_nil (P := Tryd.prog) w 24 32 a l.length c 0 0 (by kernel_rfl)
  cases a with
  | none =>
    have hn : l = [] := by
      rcases h with h | ⟨g, hg, _⟩
      · exact h
      · cases hg
    subst hn
    simp only [Option.isNone_none, List.length_nil] at he
    show Calls _ _ #[.slice none 0 c] _ _
    go_enter Tryd.func44, Tryd.ntmps44
    go_wp2
    go_ret
    exact ⟨none, 0, rfl, Or.inl rfl, Below.refl _ _⟩
  | some a =>
    obtain ⟨g', cap', w', hr, hI, hb⟩ := clone_run (c := c) h hl
    go_enter Tryd.func44, Tryd.ntmps44
    go_wp2_with (refine Lib.wpList_append_run_sl _ rfl _ _ 24 rfl _ _ rfl rfl hr ?_)
    go_ret
    exact ⟨_, cap', rfl, hI, hb⟩
end Go.Proofs.YtfbmjagchjhddaaDoor

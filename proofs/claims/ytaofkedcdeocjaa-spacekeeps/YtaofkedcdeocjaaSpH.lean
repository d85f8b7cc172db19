/-
  A process's tables: Tables.
-/
import Derived.Test.YtaofkedcdeocjaaSpG
import Derived.Lib.SlFresh
namespace Go.Proofs.Ytaofkedcdeocjaa
open Go.ChangeShapes Go.WideShapes Go.ChangeAt Go.RowKit

def ilist (l : List Int) : List Value := l.map (fun x => Value.int .i64 x)
theorem ilist_len (l : List Int) : (ilist l).length = l.length := by simp [ilist]
theorem ilist_get (l : List Int) {i : Nat} (h : i < l.length) : (ilist l)[i]? = some (.int .i64 (l.getD i 0)) := by
  simp [ilist, List.getD, h]
/-- A list of the call's own, since the heap's size was base. -/
abbrev OL (w : World) (base : Nat) (a : Option Addr) (cap : Nat) (l : List Int) : Prop := w.ownsRow base 3 1 (.slice a l.length cap) l.length (ilist l)
theorem OL.cells {w : World} {base cap : Nat} {a : Option Addr} {l : List Int} (h : OL w base a cap l) : l = [] ∨ ∃ g, a = some ⟨g, 0, none⟩ ∧ base ≤ g ∧ g < w.heap.size ∧ ∀ i, i < l.length → w.cell? ⟨g, i, none⟩ = some (.int .i64 (l.getD i 0)) ∧ w.frozen? ⟨g, i, none⟩ = false := by
  by_cases hn : l = []
  · exact Or.inl hn
  · right
    have hpos := List.length_pos_iff.2 hn
    have h' := h
    obtain ⟨h1, h2⟩ := h
    rcases h2 with ⟨_, h0⟩ | ⟨g, c, cur, hv, hgb, hcur, _, _, _, ht⟩
    · omega
    · cases hv
      refine ⟨g, rfl, hgb, (h'.lt g rfl).2, fun i hi => ⟨?_, h'.frozenAt i⟩⟩
      rw [h'.cellAt i (by omega), ilist_get l hi]
theorem app_int {wr : World} {base n cap : Nat} {a : Option Addr} {xs : List Value} (h0 : wr.ownsRow base 3 1 (.slice a n cap) n xs) (hb : base ≤ wr.heap.size) (few : n ≤ 1000) (x : Int) :
    ∃ g c wN, (Builtin.append_ #[22, 22] 22 #[.slice a n cap, .slice (some ⟨wr.heap.size, 0, none⟩) 1 1]).run Try.prog (wr.alloc (.cells #[.int .i64 x] 3)) = .ok (.slice (some ⟨g, 0, none⟩) (n + 1) c) wN ∧
      wN.ownsRow base 3 1 (.slice (some ⟨g, 0, none⟩) (n + 1) c) (n + 1) (xs ++ [.int .i64 x]) ∧ Below base wr wN := by
  obtain ⟨i, hi, hzz⟩ := Option.map_eq_some_iff.1 (show (Try.prog.info? 3).map (fun i => (i.zero, i.size, i.bytes)) = some (some (.int .i64 0), 1, 8) by kernel_rfl)
  simp only [Prod.mk.injEq] at hzz
  obtain ⟨hz0, hz1, hz2⟩ := hzz
  have bA := (Below.refl wr.heap.size wr).alloc (Nat.le_refl _) (.cells #[.int .i64 x] 3)
  have h1 := h0.alloc (.cells #[.int .i64 x] 3)
  obtain ⟨v', wN, hr, ho, hg, hn⟩ := run_append_own (P := Try.prog) _ base 22 22 3 i (.int .i64 0) 1 8 Try.underlying22 hi hz0 hz1 hz2 rfl (by decide) (.slice a n cap) n xs h1 ⟨wr.heap.size, 0, none⟩ 1 1 [.int .i64 x] rfl
    (fun j u hu => by
      have hj : j < 1 := (List.getElem?_eq_some_iff.1 hu).1
      obtain rfl : j = 0 := by omega
      cases hu; simp [go_sem])
    (fun u hu => by simp at hu; subst hu; rfl) (by unfold maxLen; omega) (by omega) (by simp; omega)
  obtain ⟨ho1, ho2⟩ := ho
  rcases ho2 with ⟨_, h00⟩ | ⟨g', c, cur, rfl, hgb, hcur, hc1, hc2, hc3, hc4⟩
  · omega
  · exact ⟨g', c, wN, hr, ⟨ho1, Or.inr ⟨g', c, cur, rfl, hgb, hcur, hc1, hc2, hc3, hc4⟩⟩, (bA.mono hb).grown hg (by simp; omega) (fun k hk => (h1.lt k hk).1)⟩

/-- A table more, if it is one and not there already. -/
def addP (l : List Int) (x : Int) : List Int := if x = 0 ∨ x ∈ l then l else l ++ [x]
theorem addP_len (l : List Int) (x : Int) : (addP l x).length ≤ l.length + 1 := by unfold addP; split <;> simp

set_option maxHeartbeats 400000 in
theorem sindex_l {w : World} {base cap : Nat} {a : Option Addr} {l : List Int} (h : OL w base a cap l) (few : l.length ≤ 1000) (x : Int) :
    Calls Try.prog 98 #[.slice a l.length cap, .int .i64 x] w fun e w' => (∃ r : Int, e = .returned (.int .i64 r) ∧ (0 ≤ r ↔ x ∈ l)) ∧ w = w' := by
  have hc := h.cells
  go_enter Try.func98, Try.ntmps98
  go_wp2_with fail
  go_loopg [8] l.length (fun g v wx => ∃ k : Nat, g + k = l.length ∧ v = .int .i64 k ∧ Hid (x ∉ l.take k) ∧ wx = w)
  case atStart => exact ⟨0, by omega, rfl, (by show x ∉ l.take 0; simp), rfl⟩
  case round =>
    obtain ⟨k, hg, rfl, hno, rfl⟩ := hrel
    by_cases hk : k < l.length
    · have k1 : (k : Int) < (l.length : Int) := by omega
      rcases hc with hc | ⟨g, rfl, _, _, hc⟩
      · subst hc; simp at hk
      have cc := (hc k hk).1
      have hts := take_snocI hk
      obtain ⟨y, hy⟩ : ∃ y, Hid (l.getD k 0 = y) := ⟨_, rfl⟩
      have hyl : Hid (y ∈ l) := by show y ∈ l; rw [← hy.out]; simp [List.getD, hk]
      rw [hy.out] at cc hts
      clear hc
      cases e : (x == y)
      · have hne : x ≠ y := by simpa using e
        have hn2 : Hid (x ∉ l.take (k + 1)) := by
          show x ∉ _
          rw [hts, List.mem_append]
          rintro (h | h)
          · exact hno.out h
          · exact hne (by simpa using h)
        clear hts
        go_wp2_with fail
        go_roundg (l.length - (k + 1))
        case measure => omega
        case rel => exact ⟨k + 1, by omega, by go_num, hn2, rfl⟩
      · have he : x = y := by simpa using e
        have hm : Hid (x ∈ l) := by
          show x ∈ l
          rw [he]; exact hyl.out
        clear hts
        go_wp2_with fail
        go_ret
        exact ⟨⟨k, rfl, fun _ => hm.out, fun _ => by omega⟩, rfl⟩
    · have k1 : ¬ ((k : Int) < (l.length : Int)) := by omega
      have hn : Hid (x ∉ l) := by
        have := hno.out
        rw [List.take_of_length_le (by omega)] at this
        exact this
      go_wp2_with fail
      go_ret
      exact ⟨⟨-1, rfl, fun h => by omega, fun h => absurd h hn.out⟩, rfl⟩

set_option maxHeartbeats 400000 in
theorem scontains_l {w : World} {base cap : Nat} {a : Option Addr} {l : List Int} (h : OL w base a cap l) (few : l.length ≤ 1000) (x : Int) :
    Calls Try.prog 88 #[.slice a l.length cap, .int .i64 x] w fun e w' => e = .returned (.bool (decide (x ∈ l))) ∧ w = w' := by
  go_enter Try.func88, Try.ntmps88
  go_wp2_with (go_at_call 98; refine (sindex_l h few x).mono ?_; rintro e wq ⟨⟨r, rfl, hr⟩, rfl⟩)
  go_ret
  refine ⟨?_, rfl⟩
  have : decide (0 ≤ r) = decide (x ∈ l) := by rw [Bool.eq_iff_iff]; simp [hr]
  rw [← this]; rfl

set_option maxRecDepth 20000 in
set_option maxHeartbeats 400000 in
theorem add_any {w : World} {base cap : Nat} {a : Option Addr} {l : List Int} (h : OL w base a cap l) (hb : base ≤ w.heap.size) (few : l.length ≤ 1000) (x : Int) :
    Calls Try.prog 60 #[.slice a l.length cap, .int .i64 x] w fun e w' => ∃ a' cap', e = .returned (.slice a' (addP l x).length cap') ∧ OL w' base a' cap' (addP l x) ∧ Below base w w' := by
  by_cases hx : x = 0
  · have e : addP l x = l := by unfold addP; rw [if_pos (Or.inl hx)]
    rw [e]
    subst hx
    go_enter Try.func60, Try.ntmps60
    go_wp2
    go_ret
    exact ⟨a, cap, rfl, h, Below.refl _ _⟩
  · have hx' : (x == 0) = false := by simpa using hx
    by_cases hm : x ∈ l
    · have e : addP l x = l := by unfold addP; rw [if_pos (Or.inr hm)]
      rw [e]
      have hC := scontains_l h few x
      rw [decide_eq_true hm] at hC
      go_enter Try.func60, Try.ntmps60
      go_wp2_with (go_at_call 88; refine hC.mono ?_; rintro e wq ⟨rfl, rfl⟩)
      go_ret
      exact ⟨a, cap, rfl, h, Below.refl _ _⟩
    · have e : addP l x = l ++ [x] := by unfold addP; rw [if_neg (by simp [hx, hm])]
      have hC := scontains_l h few x
      rw [decide_eq_false hm] at hC
      obtain ⟨g, c, wN, hrun, hoN, bN⟩ := app_int h hb few x
      rw [e]
      go_enter Try.func60, Try.ntmps60
      go_upto_region 3 with (go_at_call 88; refine hC.mono ?_; rintro e wq ⟨rfl, rfl⟩)
      go_wp2_with (refine Lib.wpList_append_run_sl _ rfl _ _ 22 rfl _ _ rfl rfl hrun ?_)
      go_ret
      refine ⟨some ⟨g, 0, none⟩, c, by simp, ?_, bN⟩
      have : ilist (l ++ [x]) = ilist l ++ [.int .i64 x] := by simp [ilist]
      rw [OL, this, List.length_append]; exact hoN
end Go.Proofs.Ytaofkedcdeocjaa

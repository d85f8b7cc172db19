/-
  Package pipe: what a pipe holds; New, Len, and the two selects (Send, Recv): one goroutine, a channel with a buffer.
-/
import Derived.Test.YtjaeapegcjhgfaaKeep
import Derived.Test.YtjaeapegcjhgfaaCore
import Derived.Conc.LoneCalls
import Derived.Conc.LoneSelect
import Derived.Conc.LoneSelectN
import Derived.KernelRfl
namespace Go.Proofs.Ytjaeapegcjhgfaa
open Go.Conc Go.ChangeShapes Go.WideShapes Go.ChangeAt Go.RowKit

/-- The words as a channel's buffer has them. -/
def wbuf (l : List Int) : Array Value := (l.map (fun x => Value.int .u64 x)).toArray
theorem wbuf_size (l : List Int) : (wbuf l).size = l.length := by simp [wbuf]
theorem wbuf_push (l : List Int) (x : Int) : (wbuf l).push (.int .u64 x) = wbuf (l ++ [x]) := by simp [wbuf]
theorem wbuf_get (x : Int) (l : List Int) : (wbuf (x :: l)).getD 0 undef = .int .u64 x := by simp [wbuf]
theorem wbuf_tail (x : Int) (l : List Int) : (wbuf (x :: l)).extract 1 (wbuf (x :: l)).size = wbuf l := by
  apply Array.ext'
  simp only [wbuf, List.map_cons, Array.toList_extract, List.size_toArray, List.length_cons, List.extract_eq_take_drop, List.drop_succ_cons, List.drop_zero, Nat.add_sub_cancel]
  exact List.take_of_length_le (Nat.le_refl _)

/-- A pipe at block b, its channel at block c, in which l waits. -/
structure PAt (w : World) (b c : Nat) (l : List Int) : Prop where
  row : w.rowIs b 40 1 (fun _ => .chan (some c))
  chan : ∃ s r, w.heap[c]? = some (.chan 4 (wbuf l) false s r false)
  few : l.length ≤ 4
namespace PAt
variable {w w' : World} {b c : Nat} {l l' : List Int}
theorem cell (h : PAt w b c l) : w.cell? ⟨b, 0, none⟩ = some (.chan (some c)) := World.rowIs.cell h.row (i := 0) (by omega)
theorem lt (h : PAt w b c l) : c < w.heap.size := by
  obtain ⟨s, r, hc⟩ := h.chan
  by_cases q : c < w.heap.size
  · exact q
  · rw [Array.getElem?_eq_none (by omega)] at hc; cases hc
theorem ne (h : PAt w b c l) : b ≠ c := by
  rintro rfl
  obtain ⟨x, hx, _⟩ := h.row
  obtain ⟨s, r, hc⟩ := h.chan
  rw [hx] at hc; cases hc
theorem touch {S : Nat → Prop} (h : PAt w b c l) (t : Touch S w w') (hb : ¬ S b) (hc : ¬ S c) : PAt w' b c l := by
  obtain ⟨s, r, e⟩ := h.chan
  exact ⟨t.row h.row hb, ⟨s, r, by rw [t.block c h.lt hc]; exact e⟩, h.few⟩
/-- Behind a communication on its channel. -/
theorem setChan (h : PAt w b c l) (l' : List Int) (f : l'.length ≤ 4) (s r : Nat) : PAt (w.setChan c 4 (wbuf l') false s r false) b c l' :=
  ⟨h.row.of_block (by simp only [World.setChan]; rw [Array.getElem?_setIfInBounds_ne (Ne.symm h.ne)]), ⟨s, r, heap_setChan _ _ _ _ _ _ _ _ h.lt⟩, f⟩
end PAt
theorem Touch.setChan (w : World) (c cap : Nat) (buf : Array Value) (cl : Bool) (s r : Nat) (tm : Bool) : Touch (· = c) w (w.setChan c cap buf cl s r tm) :=
  ⟨rfl, rfl, rfl, by simp [World.setChan], fun k hk hs => by simp only [World.setChan]; rw [Array.getElem?_setIfInBounds_ne (fun e => hs e.symm)]⟩

theorem word8 : ∃ i, Try.prog.info? 22 = some i ∧ i.bytes = 8 := by
  have h : (Try.prog.info? 22).map (·.bytes) = some 8 := by kernel_rfl
  obtain ⟨i, hi, hb⟩ := Option.map_eq_some_iff.1 h
  exact ⟨i, hi, hb⟩
theorem mk4 (w : World) : (Instr.makeChan 38 (.int .i64 4)).run Try.prog w = .ok (.chan (some w.heap.size)) (w.alloc (.chan 4 #[] false 0 0 false)) := by
  obtain ⟨i, hi, hb⟩ := word8
  simpa using run_makeChan (P := Try.prog) (w := w) Try.underlying38 hi .i64 4 (by omega) (by rw [hb]; omega)

theorem pnew_any (w : World) : Calls Try.prog 6 #[] w fun e w' => e = .returned (.pointer (some ⟨w.heap.size + 1, 0, none⟩)) ∧ PAt w' (w.heap.size + 1) w.heap.size [] ∧ Touch Nil w w' ∧ w'.heap.size = w.heap.size + 2 := by
  have hmc := mk4
  go_enter Try.func6, Try.ntmps6
  go_wp2
  go_ret
  refine ⟨rfl, ⟨?_, ⟨0, 0, ?_⟩, by simp⟩, ((Touch.refl Nil w).alloc _).alloc _, by simp⟩
  · have := World.rowIs_alloc (w.alloc (.chan 4 #[] false 0 0 false)) #[.chan (some w.heap.size)] 40 (fun _ => .chan (some w.heap.size)) (fun i hi => by
      have hi : i < 1 := hi
      match i, hi with
      | 0, _ => rfl)
    simpa using this
  · rw [Below.heap_alloc _ _ _ (by simp)]
    exact heap_alloc_new w _

theorem plen_any {w : World} {b c : Nat} {l : List Int} (h : PAt w b c l) : Calls Try.prog 10 #[.pointer (some ⟨b, 0, none⟩)] w fun e w' => e = .returned (.int .i64 l.length) ∧ w = w' := by
  obtain ⟨s, r, hc⟩ := h.chan
  have c0 := h.cell
  have hl := fun ty => run_len_chan (P := Try.prog) 38 ty Try.underlying38 hc
  rw [wbuf_size] at hl
  go_enter Try.func10, Try.ntmps10
  go_wp2
  go_ret
  exact ⟨rfl, rfl⟩
set_option maxRecDepth 100000 in
theorem psend_any {w : World} {b c : Nat} {l : List Int} (h : PAt w b c l) (x : Int) : Calls Try.prog 8 #[.pointer (some ⟨b, 0, none⟩), .int .u64 x] w fun e w' => e = .returned (.bool (decide (l.length < 4))) ∧ PAt w' b c (if l.length < 4 then l ++ [x] else l) ∧ Touch (· = c) w w' := by
  obtain ⟨s, r, hc⟩ := h.chan
  have c0 := h.cell
  refine calls_of_loneTo fun cs => ?_
  have e : Frame.enter Try.prog 8 #[.pointer (some ⟨b, 0, none⟩), .int .u64 x] .normal = (base 8).at ⟨#[.pointer (some ⟨b, 0, none⟩), .int .u64 x, undef, undef, undef, undef, undef, undef, undef, undef, undef, undef, undef], []⟩ [.code (Try.f8.body.getD .skip)] := by
    simp [Frame.enter, Frame.at, Try.func8, base, Try.f8]
  rw [e]
  refine LoneTo.goes (n := 17) ?_
  simp only [Try.f8, Option.getD_some]
  s_c stepG_seq
  s_reg
  s_op
  s_c stepG_region_end
  s_c stepG_seq
  s_c stepG_seq
  s_reg
  s_op
  s_op
  s_op
  s_op
  s_c stepG_region_end
  s_reg
  s_op
  s_c stepG_region_end
  s_c stepG_seq
  s_reg
  s_stop
  by_cases hl : l.length < 4
  · refine LoneTo.step (step_lone_select_send_room (c := c) (v := .int .u64 x) (z' := .int .u64 0) (cap := 4) (buf := wbuf l) (s := s) (r := r) (tm := false)
      (stepG_comm (cases := #[scase c (.int .u64 x) (.int .u64 0)]) (blocking := false) (shape := .select) (w' := w) rfl rfl (by decide) (by simp [go_sem, execOp, scase, Act.eval]))
      hc (by rw [wbuf_size]; exact hl)) ?_
    rw [Frame.finish_at]
    walk_nrm
    refine LoneTo.goes (n := 10) ?_
    s_op
    s_op
    s_c stepG_region_end
    s_c stepG_block
    s_cond true
    s_c stepG_seq
    s_reg
    s_op
    s_c stepG_region_end
    s_c stepG_ret'
    s_stop
    refine LoneTo.done ⟨.returned (.bool true), _, rfl, ⟨by simp [hl], ?_⟩, rfl, rfl, rfl, rfl, _, Try.func8, by simp [results, Try.f8, Frame.at]⟩
    rw [if_pos hl, wbuf_push]
    exact ⟨h.setChan _ (by simp; omega) _ _, Touch.setChan _ _ _ _ _ _ _ _⟩
  · refine LoneTo.step (step_lone_select_send_full (c := c) (v := .int .u64 x) (z' := .int .u64 0) (cap := 4) (buf := wbuf l) (s := s) (r := r) (tm := false)
      (stepG_comm (cases := #[scase c (.int .u64 x) (.int .u64 0)]) (blocking := false) (shape := .select) (w' := w) rfl rfl (by decide) (by simp [go_sem, execOp, scase, Act.eval]))
      hc (by rw [wbuf_size]; omega)) ?_
    rw [Frame.finish_at]
    walk_nrm
    refine LoneTo.goes (n := 10) ?_
    s_op
    s_op
    s_c stepG_region_end
    s_c stepG_block
    s_cond false
    s_c stepG_seq
    s_reg
    s_op
    s_c stepG_region_end
    s_c stepG_ret'
    s_stop
    refine LoneTo.done ⟨.returned (.bool false), _, rfl, ⟨by simp [hl], ?_⟩, rfl, rfl, rfl, rfl, _, Try.func8, by simp [results, Try.f8, Frame.at]⟩
    rw [if_neg hl]
    exact ⟨h, Touch.refl _ _⟩
set_option maxRecDepth 100000 in
theorem precv_some {w : World} {b c : Nat} {x : Int} {l : List Int} (h : PAt w b c (x :: l)) : Calls Try.prog 11 #[.pointer (some ⟨b, 0, none⟩)] w fun e w' => e = .returned (.tuple #[.int .u64 x, .bool true]) ∧ PAt w' b c l ∧ Touch (· = c) w w' := by
  obtain ⟨s, r, hc⟩ := h.chan
  have c0 := h.cell
  refine calls_of_loneTo fun cs => ?_
  have e : Frame.enter Try.prog 11 #[.pointer (some ⟨b, 0, none⟩)] .normal = (base 11).at ⟨#[.pointer (some ⟨b, 0, none⟩), undef, undef, undef, undef, undef, undef, undef, undef, undef, undef, undef, undef, undef], []⟩ [.code (Try.f11.body.getD .skip)] := by
    simp [Frame.enter, Frame.at, Try.func11, base, Try.f11]
  rw [e]
  refine LoneTo.goes (n := 14) ?_
  simp only [Try.f11, Option.getD_some]
  s_c stepG_seq
  s_reg
  s_op
  s_op
  s_c stepG_region_end
  s_c stepG_seq
  s_reg
  s_op
  s_op
  s_op
  s_op
  s_c stepG_region_end
  s_c stepG_seq
  s_reg
  s_stop
  refine LoneTo.step (step_lone_select_recv_buf (c := c) (z := .int .u64 0) (cap := 4) (buf := wbuf (x :: l)) (closed := false) (s := s) (r := r) (tm := false)
    (stepG_comm (cases := #[rcase c (.int .u64 0)]) (blocking := false) (shape := .select) (w' := w) rfl rfl (by decide) (by simp [go_sem, execOp, rcase, Act.eval]))
    hc (by rw [wbuf_size]; simp)) ?_
  rw [Frame.finish_at, wbuf_get, wbuf_tail]
  walk_nrm
  refine LoneTo.goes (n := 17) ?_
  s_op
  s_op
  s_c stepG_region_end
  s_c stepG_block
  s_cond true
  s_c stepG_seq
  s_reg
  s_op
  s_op
  s_c stepG_region_end
  s_c stepG_seq
  s_reg
  s_op
  s_op
  s_op
  s_c stepG_region_end
  s_c stepG_ret'
  s_stop
  refine LoneTo.done ⟨.returned (.tuple #[.int .u64 x, .bool true]), _, rfl, ⟨rfl, ?_⟩, rfl, rfl, rfl, rfl, _, Try.func11, by simp [results, Try.f11, Frame.at]⟩
  exact ⟨h.setChan _ (by have := h.few; simp at this; omega) _ _, Touch.setChan _ _ _ _ _ _ _ _⟩
set_option maxRecDepth 100000 in
theorem precv_none {w : World} {b c : Nat} (h : PAt w b c []) : Calls Try.prog 11 #[.pointer (some ⟨b, 0, none⟩)] w fun e w' => e = .returned (.tuple #[.int .u64 0, .bool false]) ∧ w = w' := by
  obtain ⟨s, r, hc⟩ := h.chan
  have c0 := h.cell
  refine calls_of_loneTo fun cs => ?_
  have e : Frame.enter Try.prog 11 #[.pointer (some ⟨b, 0, none⟩)] .normal = (base 11).at ⟨#[.pointer (some ⟨b, 0, none⟩), undef, undef, undef, undef, undef, undef, undef, undef, undef, undef, undef, undef, undef], []⟩ [.code (Try.f11.body.getD .skip)] := by
    simp [Frame.enter, Frame.at, Try.func11, base, Try.f11]
  rw [e]
  refine LoneTo.goes (n := 14) ?_
  simp only [Try.f11, Option.getD_some]
  s_c stepG_seq
  s_reg
  s_op
  s_op
  s_c stepG_region_end
  s_c stepG_seq
  s_reg
  s_op
  s_op
  s_op
  s_op
  s_c stepG_region_end
  s_c stepG_seq
  s_reg
  s_stop
  refine LoneTo.step (step_lone_select_default (c := c) (z := .int .u64 0) (cap := 4) (s := s) (r := r) (tm := false)
    (stepG_comm (cases := #[rcase c (.int .u64 0)]) (blocking := false) (shape := .select) (w' := w) rfl rfl (by decide) (by simp [go_sem, execOp, rcase, Act.eval]))
    hc) ?_
  rw [Frame.finish_at]
  walk_nrm
  refine LoneTo.goes (n := 11) ?_
  s_op
  s_op
  s_c stepG_region_end
  s_c stepG_block
  s_cond false
  s_c stepG_seq
  s_reg
  s_op
  s_op
  s_c stepG_region_end
  s_c stepG_ret'
  s_stop
  exact LoneTo.done ⟨.returned (.tuple #[.int .u64 0, .bool false]), _, rfl, ⟨rfl, rfl⟩, rfl, rfl, rfl, rfl, _, Try.func11, by simp [results, Try.f11, Frame.at]⟩
end Go.Proofs.Ytjaeapegcjhgfaa

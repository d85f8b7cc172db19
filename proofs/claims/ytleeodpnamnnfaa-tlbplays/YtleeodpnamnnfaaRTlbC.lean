/-
  The document's own TLB: what is put, forgotten.
-/
import Derived.Test.YtleeodpnamnnfaaRTlbB
namespace Go.Proofs.Ytleeodpnamnnfaa
open Go.ChangeShapes Go.WideShapes Go.ChangeAt Go.RowKit

theorem LRow.dropN {ty : TypeId} {w : World} {g o cap : Nat} {l : List It} (h : LRow ty w g o cap l) (n : Nat) (hn : n ≤ l.length) : LRow ty w g (o + n * 6) (cap - n) (l.drop n) := by
  obtain ⟨h1, h2, m, f, h3, h4, h5⟩ := h
  refine ⟨by rw [List.length_drop]; omega, by omega, m, f, h3, by omega, fun i v hv => ?_⟩
  rw [flat_drop, List.getElem?_drop] at hv
  have := h5 (n * 6 + i) v hv
  rw [← this]; congr 1; omega

set_option maxHeartbeats 1000000 in
theorem rput_any {w : World} {lo r : Nat} {l : List It} (h : RT w lo r l) (x : It) :
    Calls Try.prog 18 #[.pointer (some ⟨r, 0, none⟩), x.V] w fun e w' => e = .returned (.tuple #[]) ∧ RT w' w.heap.size r (put x l) ∧ Touch (· = r) w w' := by
  have hlt := h.lt
  have hT : Touch Nil w (w.alloc (.cells #[.int .i64 x.pc, .int .i64 x.pg, .int .i64 x.fr, .bool x.wr, .bool x.us, .bool x.gl] 44)) := (Touch.refl Nil w).alloc _
  have hd := rdropPage_any (h.nil hT) x.pc x.pg
  have hlen := drops_len (fun y => y.serves x.pc x.pg) l
  have h8 := h.1
  have hput : put x l = if (dropPage x.pc x.pg l).length < 8 then dropPage x.pc x.pg l ++ [x] else (dropPage x.pc x.pg l ++ [x]).drop 1 := rfl
  change (dropPage x.pc x.pg l).length ≤ l.length at hlen
  generalize dropPage x.pc x.pg l = l1 at *
  have hput' : Aside (put x l = if l1.length < 8 then l1 ++ [x] else (l1 ++ [x]).drop 1) := hput
  clear hput
  have hrw : ¬ (w.heap.size = r) := by omega
  go_enter Try.func18, Try.ntmps18
  go_wp2_with (go_at_call 19; refine hd.mono ?_; rintro e w1 ⟨rfl, hA, hT1⟩; obtain ⟨x0, x1, x2, x3, x4, x5⟩ := box6_of hT1 hrw; obtain ⟨_, a, cap, hr, hLA, hbk⟩ := hA; have hsl := hr.cell (i := 0) (by omega))
  have hTb : Touch Nil w1 (w1.alloc (.cells #[.int .i64 x.pc, .int .i64 x.pg, .int .i64 x.fr, .bool x.wr, .bool x.us, .bool x.gl] 44)).drew := ((Touch.refl Nil w1).alloc _).drew
  obtain ⟨k, o, cap', w2, hrun, hL2, hT2, hfr⟩ := LAt.append (P := Try.prog) (t := 39) (hLA.touch hTb (by simp [Nil])) (by kernel_rfl) (by kernel_rfl) (by omega) x w1.heap.size (fun j v hv => by
    have hj : j < 6 := (List.getElem?_eq_some_iff.1 hv).1
    have e : j = 0 ∨ j = 1 ∨ j = 2 ∨ j = 3 ∨ j = 4 ∨ j = 5 := by omega
    rcases e with rfl | rfl | rfl | rfl | rfl | rfl <;> (cases hv; simp))
  have hrk : ¬ blk a r := by
    rintro ⟨p, rfl, e⟩
    rcases hLA with ⟨e', _⟩ | ⟨g, o', e', hLA⟩
    · cases e'
    · cases e'
      obtain ⟨n, f', h3⟩ := hLA.rowHas0
      exact rowIs_ne hr h3 (by decide) e.symm
  have hr2 : w2.rowIs r 41 1 _ := hT2.row (hTb.row hr (by simp [Nil])) hrk
  have c2 := hr2.cell (i := 0) (by omega)
  have f2 := hr2.frozen 0
  have hlt1 := hr.lt
  have hbw : r ≠ w1.heap.size := by omega
  have hTw1 : Touch (· = r) w w1 := (hT.mono (by simp [Nil])).trans hT1
  have hTf : Aside (Touch (· = r) w w2) := (hTw1.trans (hTb.mono (by simp [Nil]))).transNew hT2 (fun i hi e => by have := hbk i e; simp at this; omega)
  have hkn : Aside (w.heap.size ≤ k) := by
    rcases hfr with ⟨e, _⟩ | e
    · exact Nat.le_trans hTw1.size (Nat.le_trans hTb.size e)
    · have := hbk k ⟨_, e, rfl⟩; simp at this; exact Nat.le_of_succ_le this
  have hkr : ¬ k = r := by obtain ⟨n, f', h3⟩ := hL2.rowHas0; exact (rowIs_ne hr2 h3 (by decide)).symm
  clear hfr hT2 hbk hLA hT1 hTb hd hrk hTw1
  have hxl : (l1 ++ [x]).length = l1.length + 1 := by simp
  have hrow3 := rowIs_put1 hr2 (.slice (some ⟨k, o, none⟩) (l1.length + 1) cap')
  have hc3 := hrow3.cell (i := 0) (by omega)
  have hf3 := hrow3.frozen 0
  have hL3 : Aside (LRow 44 _ k o cap' (l1 ++ [x])) := hL2.touch ((Touch.refl (· = r) w2).setCell (p := ⟨r, 0, none⟩) rfl (.slice (some ⟨k, o, none⟩) (l1.length + 1) cap')) hkr
  have hT3 : Aside (Touch (· = r) w (w2.setCell ⟨r, 0, none⟩ (.slice (some ⟨k, o, none⟩) (l1.length + 1) cap'))) := hTf.out.setCell (p := ⟨r, 0, none⟩) rfl _
  have hrow3' : Aside (World.rowIs _ r 41 1 _) := hrow3
  have hcap := hL2.1
  clear hrow3 hL2
  go_region_law (refine step_append_run (P := Try.prog) rfl (.tmp 14) (.tmp 16) 39 rfl (.slice a l1.length cap) (.slice (some ⟨w1.heap.size, 0, none⟩) 1 1) (by simp [Act.eval]) (by simp [Act.eval]) 39 rfl hrun ?_)
  all_goals
    go_wp2_with fail
    clear hrun c2 f2
    generalize w2.setCell ⟨r, 0, none⟩ (.slice (some ⟨k, o, none⟩) (l1.length + 1) cap') = w3 at *
    by_cases hfull : l1.length < 8
    · have m1 : max ((l1.length : Int) + 1 - 8) 0 = 0 := by omega
      have m2 : IntKind.i64.wrap ((l1.length : Int) + 1 - 8) = (l1.length : Int) + 1 - 8 := by rw [IntKind.wrap_i64]; omega
      go_region
      go_end0
      refine ⟨rfl, ?_, ((hT3.out.setCell (p := ⟨r, 0, none⟩) rfl _)).drew⟩
      have hp2 := hput'.out
      rw [if_pos hfull] at hp2
      rw [hp2, ← hxl]
      exact (RT.store hrow3'.out (Touch.refl Nil w3) (Or.inr ⟨k, o, rfl, hL3.out⟩) (by omega) (fun j ⟨p, hp, e⟩ => by cases hp; subst e; exact hkn.out)).nil ((Touch.refl Nil _).drew)
    · have hl8 : l1.length = 8 := by omega
      have hcap1 : ¬ (cap' = 1) := by omega
      have hcap2 : (1 : Nat) ≤ cap' := by omega
      have m1 : max ((l1.length : Int) + 1 - 8) 0 = 1 := by omega
      have m2 : IntKind.i64.wrap ((l1.length : Int) + 1 - 8) = (l1.length : Int) + 1 - 8 := by rw [IntKind.wrap_i64]; omega
      have m3 : (1 : Nat) ≤ l1.length + 1 := by omega
      have m4 : (1 : Int) ≤ (l1.length : Int) + 1 := by omega
      go_region
      go_end0
      refine ⟨rfl, ?_, ((hT3.out.setCell (p := ⟨r, 0, none⟩) rfl _)).drew⟩
      have hp2 := hput'.out
      rw [if_neg hfull] at hp2
      have hd8 : ((l1 ++ [x]).drop 1).length = 8 := by rw [List.length_drop, hxl, hl8]
      have hst := RT.store (lo := w.heap.size) hrow3'.out (Touch.refl Nil w3) (Or.inr ⟨k, o + 1 * 6, rfl, hL3.out.dropN 1 (by omega)⟩) (by omega) (fun j ⟨p, hp, e⟩ => by cases hp; subst e; exact hkn.out)
      rw [hd8] at hst
      rw [hp2]
      exact hst.nil ((Touch.refl Nil _).drew)
end Go.Proofs.Ytleeodpnamnnfaa

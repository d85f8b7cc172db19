/-
  Put, List, Clone.
-/
import Derived.Test.YtleeodpnamnnfaaTlbF
namespace Go.Proofs.Ytleeodpnamnnfaa
open Go.ChangeShapes Go.WideShapes Go.ChangeAt Go.RowKit

/-- What the one cell of a TLB holds. -/
theorem TAt.slice {w : World} {b : Nat} {g : Option Nat} {l : List It} (h : TAt w b g l) : ∃ a cap f, w.rowIs b 52 1 f ∧ w.cell? ⟨b, 0, none⟩ = some (.slice a l.length cap) ∧ LAt 26 w a cap l ∧ (∀ k, blk a k ↔ g = some k) ∧ (∀ p, a = some p → p.off = 0 ∧ p.spot = none) := by
  obtain ⟨h0, ⟨rfl, rfl, h⟩ | ⟨k, cap, rfl, h, h2⟩⟩ := h
  · refine ⟨none, 0, _, h, h.cell (i := 0) (by omega), Or.inl ⟨rfl, rfl, rfl⟩, fun k => ⟨?_, ?_⟩, fun p hp => by cases hp⟩
    · rintro ⟨p, hp, _⟩; cases hp
    · intro hk; cases hk
  · refine ⟨some ⟨k, 0, none⟩, cap, _, h, h.cell (i := 0) (by omega), Or.inr ⟨k, 0, rfl, h2⟩, fun j => ⟨?_, ?_⟩, fun p hp => by cases hp; exact ⟨rfl, rfl⟩⟩
    · rintro ⟨p, hp, rfl⟩; cases hp; rfl
    · intro hk; cases hk; exact ⟨_, rfl, rfl⟩

/-- A block that only a touch of others lies between. -/
theorem box6_of {w w2 : World} {y : It} {t : TypeId} {S : Nat → Prop} (h : Touch S (w.alloc (.cells #[.int .i64 y.pc, .int .i64 y.pg, .int .i64 y.fr, .bool y.wr, .bool y.us, .bool y.gl] t)) w2) (hs : ¬ S w.heap.size) :
    w2.cell? ⟨w.heap.size, 0, none⟩ = some (.int .i64 y.pc) ∧ w2.cell? ⟨w.heap.size, 1, none⟩ = some (.int .i64 y.pg) ∧ w2.cell? ⟨w.heap.size, 2, none⟩ = some (.int .i64 y.fr) ∧ w2.cell? ⟨w.heap.size, 3, none⟩ = some (.bool y.wr) ∧ w2.cell? ⟨w.heap.size, 4, none⟩ = some (.bool y.us) ∧ w2.cell? ⟨w.heap.size, 5, none⟩ = some (.bool y.gl) := by
  have hb := h.block w.heap.size (by simp) hs
  refine ⟨?_, ?_, ?_, ?_, ?_, ?_⟩ <;> (rw [World.cell?_of_block hb]; simp)

set_option maxHeartbeats 1000000 in
theorem tput_any {w : World} {b : Nat} {g : Option Nat} {l : List It} (h : TAt w b g l) (x : It) :
    Calls Try.prog 10 #[.pointer (some ⟨b, 0, none⟩), x.V] w fun e w' => e = .returned (.tuple #[]) ∧ ∃ g', TAt w' b g' (put x l) ∧ Touch (own b g) w w' ∧ Fr w g g' := by
  have hT : Touch Nil w (w.alloc (.cells #[.int .i64 x.pc, .int .i64 x.pg, .int .i64 x.fr, .bool x.wr, .bool x.us, .bool x.gl] 26)) := (Touch.refl Nil w).alloc _
  have hg := h.glt
  have hb := h.blt
  have hown : ¬ own b g w.heap.size := by
    rintro (e | e)
    · omega
    · have := hg _ e; omega
  have hd := tdropPage_any (h.nil hT) x.pc x.pg
  have hlen := drops_len (fun y => y.serves x.pc x.pg) l
  have h8 := h.1
  have hput : put x l = if (dropPage x.pc x.pg l).length < 8 then dropPage x.pc x.pg l ++ [x] else (dropPage x.pc x.pg l ++ [x]).drop 1 := rfl
  change (dropPage x.pc x.pg l).length ≤ l.length at hlen
  generalize dropPage x.pc x.pg l = l1 at *
  have hput' : Aside (put x l = if l1.length < 8 then l1 ++ [x] else (l1 ++ [x]).drop 1) := hput
  clear hput
  go_enter Try.func10, Try.ntmps10
  go_wp2_with (go_at_call 13; refine hd.mono ?_; rintro e w1 ⟨rfl, hA, hT1⟩; obtain ⟨x0, x1, x2, x3, x4, x5⟩ := box6_of hT1 hown; obtain ⟨a, cap, f, hr, hsl, hLA, hbk, ho⟩ := hA.slice)
  have hTb : Touch Nil w1 (w1.alloc (.cells #[.int .i64 x.pc, .int .i64 x.pg, .int .i64 x.fr, .bool x.wr, .bool x.us, .bool x.gl] 26)).drew := ((Touch.refl Nil w1).alloc _).drew
  obtain ⟨k, o, cap', w2, hrun, hL2, hT2, hfr⟩ := LAt.append (P := Try.prog) (t := 32) (hLA.touch hTb (by simp [Nil])) (by kernel_rfl) (by kernel_rfl) (by omega) x w1.heap.size (fun j v hv => by
    have hj : j < 6 := (List.getElem?_eq_some_iff.1 hv).1
    have e : j = 0 ∨ j = 1 ∨ j = 2 ∨ j = 3 ∨ j = 4 ∨ j = 5 := by omega
    rcases e with rfl | rfl | rfl | rfl | rfl | rfl <;> (cases hv; simp))
  have ho0 : o = 0 := by
    rcases hfr with ⟨_, e⟩ | e
    · exact e
    · exact (ho _ e).1
  subst ho0
  have hbg : ¬ blk a b := fun e => hA.ne ((hbk b).1 e)
  have hr2 : w2.rowIs b 52 1 f := hT2.row (hTb.row hr (by simp [Nil])) hbg
  have c2 := hr2.cell (i := 0) (by omega)
  have f2 := hr2.frozen 0
  have hb1 := hA.blt
  have hbw : b ≠ w1.heap.size := by omega
  have hTf : Aside (Touch (own b g) w w2) := ((hT.mono (by simp [Nil])).trans hT1).trans ((hTb.mono (by simp [Nil])).trans (hT2.mono fun j _ e => Or.inr ((hbk j).1 e)))
  have hFr : Aside (Fr w g (some k)) := by
    rcases hfr with ⟨e, _⟩ | e
    · right; intro j hj; cases hj
      have h1 := hT1.size
      have h2 : w1.heap.size ≤ k := Nat.le_trans hTb.size e
      exact Nat.le_trans (Nat.le_trans hT.size h1) h2
    · left; exact ((hbk k).1 ⟨_, e, rfl⟩).symm
  clear hfr hT2 hbk ho hLA hT1 hTb hd hA
  have hxl : (l1 ++ [x]).length = l1.length + 1 := by simp
  have hrow3 := rowIs_put1 hr2 (.slice (some ⟨k, 0, none⟩) (l1.length + 1) cap')
  have hc3 := hrow3.cell (i := 0) (by omega)
  have hkb : ¬ k = b := by obtain ⟨n, f', h3⟩ := hL2.rowHas0; exact (rowIs_ne hr2 h3 (by decide)).symm
  have hL3 := hL2.touch ((Touch.refl (· = b) w2).setCell (p := ⟨b, 0, none⟩) rfl (.slice (some ⟨k, 0, none⟩) (l1.length + 1) cap')) hkb
  have hT3 : Aside (Touch (own b g) w (w2.setCell ⟨b, 0, none⟩ (.slice (some ⟨k, 0, none⟩) (l1.length + 1) cap'))) := hTf.out.setCell (p := ⟨b, 0, none⟩) (Or.inl rfl) _
  by_cases hfull : l1.length < 8
  · have hz : ¬ (8 : Int) < (l1.length : Int) + 1 := by omega
    have hput2 : Aside (put x l = l1 ++ [x]) := by have := hput'.out; rw [if_pos hfull] at this; exact this
    have hfin : Aside (TAt (w2.setCell ⟨b, 0, none⟩ (.slice (some ⟨k, 0, none⟩) (l1.length + 1) cap')) b (some k) (l1 ++ [x])) := by
      have := TAt.store hr2 hL2 (by omega)
      rwa [hxl] at this
    clear hput' hrow3 hL3
    go_region_law (refine step_append_run (P := Try.prog) rfl (.tmp 14) (.tmp 16) 32 rfl (.slice a l1.length cap) (.slice (some ⟨w1.heap.size, 0, none⟩) 1 1) (by simp [Act.eval]) (by simp [Act.eval]) 32 rfl hrun ?_)
    all_goals
      go_wp2
      go_end0
      exact ⟨rfl, some k, hfin.out.is hput2.out.symm, hT3.out, hFr.out⟩
  · have hz : (8 : Int) < (l1.length : Int) + 1 := by omega
    have hput2 : Aside (put x l = (l1 ++ [x]).drop 1) := by have := hput'.out; rw [if_neg hfull] at this; exact this
    rw [← hxl] at hrow3 hL3
    have hfo := tforget_row hrow3 (by rw [hxl]; rw [hxl] at hL3; exact hL3) (by omega) 0 ⟨Int.le_refl _, by omega⟩
    rw [hxl] at hfo
    clear hput' hrow3 hL3
    go_region_law (refine step_append_run (P := Try.prog) rfl (.tmp 14) (.tmp 16) 32 rfl (.slice a l1.length cap) (.slice (some ⟨w1.heap.size, 0, none⟩) 1 1) (by simp [Act.eval]) (by simp [Act.eval]) 32 rfl hrun ?_)
    all_goals
      go_wp2_with (go_at_call 15; refine hfo.mono ?_; rintro e w4 ⟨rfl, hA4, hT4⟩)
      go_end0
      refine ⟨rfl, some k, hA4.is (by rw [hput2.out]; simp [forget]), ?_, hFr.out⟩
      refine hT3.out.transNew hT4 ?_
      rintro j hj (e | e)
      · exact Or.inl e
      · cases e
        rcases hFr.out with e | e
        · exact Or.inr e.symm
        · have := e k rfl; omega

set_option maxHeartbeats 1000000 in
theorem tlist_any {w : World} {b : Nat} {g : Option Nat} {l : List It} (h : TAt w b g l) :
    Calls Try.prog 14 #[.pointer (some ⟨b, 0, none⟩)] w fun e w' => ∃ a cap, e = .returned (.slice a l.length cap) ∧ LAt 26 w' a cap l ∧ (∀ k, blk a k → w.heap.size ≤ k) ∧ (∀ p, a = some p → p.off = 0 ∧ p.spot = none) ∧ Touch Nil w w' := by
  obtain ⟨h0, ⟨rfl, rfl, h⟩ | ⟨k, cap, rfl, h, h2⟩⟩ := h
  · have c0 := h.cell (i := 0) (by omega)
    go_enter Try.func14, Try.ntmps14
    go_wp2_with (go_at_call 33; refine clone_nil.mono ?_; rintro e w1 ⟨rfl, rfl⟩)
    go_ret
    exact ⟨none, 0, rfl, Or.inl ⟨rfl, rfl, rfl⟩, (fun k ⟨p, hp, _⟩ => by cases hp), (fun p hp => by cases hp), Touch.refl _ _⟩
  · have c0 := h.cell (i := 0) (by omega)
    have hcl := clone_row h2 (by omega)
    go_enter Try.func14, Try.ntmps14
    go_wp2_with (go_at_call 33; refine hcl.mono ?_; rintro e w1 ⟨g', cap', rfl, hge, hL, hT⟩)
    go_ret
    exact ⟨some ⟨g', 0, none⟩, cap', rfl, Or.inr ⟨g', 0, rfl, hL⟩, (fun k ⟨p, hp, hk⟩ => by cases hp; subst hk; exact hge), (fun p hp => by cases hp; exact ⟨rfl, rfl⟩), hT⟩

set_option maxHeartbeats 1000000 in
theorem tclone_any {w : World} {b : Nat} {g : Option Nat} {l : List It} (h : TAt w b g l) :
    Calls Try.prog 23 #[.pointer (some ⟨b, 0, none⟩)] w fun e w' => ∃ b' g', e = .returned (.pointer (some ⟨b', 0, none⟩)) ∧ TAt w' b' g' l ∧ w.heap.size ≤ b' ∧ (∀ k, g' = some k → w.heap.size ≤ k) ∧ Touch Nil w w' := by
  obtain ⟨h0, ⟨rfl, rfl, h⟩ | ⟨k, cap, rfl, h, h2⟩⟩ := h
  · have c0 := h.cell (i := 0) (by omega)
    go_enter Try.func23, Try.ntmps23
    go_wp2_with (go_at_call 33; refine clone_nil.mono ?_; rintro e w1 ⟨rfl, rfl⟩)
    go_ret
    refine ⟨w.heap.size, none, rfl, ⟨by simp, Or.inl ⟨rfl, rfl, World.rowIs_alloc w _ _ _ (fun i hi => ?_)⟩⟩, Nat.le_refl _, (fun k hk => by cases hk), (Touch.refl Nil w).alloc _⟩
    have : i = 0 := by simpa using hi
    subst this; rfl
  · have c0 := h.cell (i := 0) (by omega)
    have hcl := clone_row h2 (by omega)
    go_enter Try.func23, Try.ntmps23
    go_wp2_with (go_at_call 33; refine hcl.mono ?_; rintro e w1 ⟨g', cap', rfl, hge, hL, hT⟩)
    go_ret
    refine ⟨w1.heap.size, some g', rfl, ⟨h0, Or.inr ⟨g', cap', rfl, World.rowIs_alloc w1 _ _ _ (fun i hi => ?_), hL.touch ((Touch.refl Nil w1).alloc _) (by simp [Nil])⟩⟩, hT.size, (fun k hk => by cases hk; exact hge), hT.alloc _⟩
    have : i = 0 := by simpa using hi
    subst this; rfl
end Go.Proofs.Ytleeodpnamnnfaa

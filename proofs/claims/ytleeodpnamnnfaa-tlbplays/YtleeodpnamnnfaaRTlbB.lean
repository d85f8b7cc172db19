/-
  The document's own TLB: what is dropped.
-/
import Derived.Test.YtleeodpnamnnfaaRTlbA
namespace Go.Proofs.Ytleeodpnamnnfaa
open Go.ChangeShapes Go.WideShapes Go.ChangeAt Go.RowKit

theorem drops_snoc (p : It → Bool) (l : List It) (j : Nat) (y : It) (hy : l[j]? = some y) : drops p (l.take (j + 1)) = drops p (l.take j) ++ (if p y = true then [] else [y]) := by
  rw [List.take_add_one, hy]
  unfold drops
  rw [List.filter_append]
  cases hq : p y <;> simp [hq]

/-- One more item at the end of a list of the call's own, out of a variable's block. -/
theorem snoc_run {P : Program} {ty t : TypeId} {w wr : World} {aW : Option Addr} {cW : Nat} {D : List It} (hW : LAt ty wr aW cW D) (hb : ∀ k, blk aW k → w.heap.size ≤ k) (hT : Touch Nil w wr) (ht : P.underlying t = some (.slice ty)) (hinfo : (P.info? ty).map (fun i => (i.zero, i.size, i.bytes)) = some (some It.zero.V, 6, 32)) (few : D.length ≤ 1024) (y : It) :
    ∃ gN oN cN wN, (Builtin.append_ #[t, t] t #[.slice aW D.length cW, .slice (some ⟨wr.heap.size + 1, 0, none⟩) 1 1]).run P ((wr.alloc (.cells #[.int .i64 y.pc, .int .i64 y.pg, .int .i64 y.fr, .bool y.wr, .bool y.us, .bool y.gl] ty)).alloc (.cells #[.int .i64 y.pc, .int .i64 y.pg, .int .i64 y.fr, .bool y.wr, .bool y.us, .bool y.gl] ty)) = .ok (.slice (some ⟨gN, oN, none⟩) (D.length + 1) cN) wN ∧
      LRow ty wN gN oN cN (D ++ [y]) ∧ Touch Nil w wN ∧ ∀ k, blk (some (⟨gN, oN, none⟩ : Addr)) k → w.heap.size ≤ k := by
  have hTb : Touch Nil wr (wr.alloc (.cells #[.int .i64 y.pc, .int .i64 y.pg, .int .i64 y.fr, .bool y.wr, .bool y.us, .bool y.gl] ty)) := (Touch.refl Nil wr).alloc _
  have hTb2 : Touch Nil w ((wr.alloc (.cells #[.int .i64 y.pc, .int .i64 y.pg, .int .i64 y.fr, .bool y.wr, .bool y.us, .bool y.gl] ty)).alloc (.cells #[.int .i64 y.pc, .int .i64 y.pg, .int .i64 y.fr, .bool y.wr, .bool y.us, .bool y.gl] ty)) := (hT.trans hTb).alloc _
  obtain ⟨gN, oN, cN, wN, hrun, hLN, hTN, hfN⟩ := LAt.append (P := P) (t := t) ((hW.touch hTb (by simp [Nil])).touch ((Touch.refl Nil _).alloc (.cells #[.int .i64 y.pc, .int .i64 y.pg, .int .i64 y.fr, .bool y.wr, .bool y.us, .bool y.gl] ty)) (by simp [Nil])) ht hinfo few y (wr.heap.size + 1) (fun i v hv => by
    have hj : i < 6 := (List.getElem?_eq_some_iff.1 hv).1
    have e : i = 0 ∨ i = 1 ∨ i = 2 ∨ i = 3 ∨ i = 4 ∨ i = 5 := by omega
    rcases e with rfl | rfl | rfl | rfl | rfl | rfl <;> (cases hv; simp))
  refine ⟨gN, oN, cN, wN, hrun, hLN, hTb2.transNew hTN (fun i hi e => by have := hb i e; omega), ?_⟩
  rintro k ⟨p, hp, rfl⟩
  cases hp
  rcases hfN with ⟨h1, _⟩ | h1
  · exact Nat.le_trans hTb2.size h1
  · exact hb _ ⟨_, h1, rfl⟩

/-- What is stored is what the TLB holds. -/
theorem RT.store {w w' : World} {lo r cap : Nat} {a : Option Addr} {f : Nat → Value} {l : List It} (h : w.rowIs r 41 1 f) (t : Touch Nil w w') (hL : LAt 44 w' a cap l) (h8 : l.length ≤ 8) (hb : ∀ k, blk a k → lo ≤ k) : RT (w'.setCell ⟨r, 0, none⟩ (.slice a l.length cap)) lo r l := by
  have h' := t.row h (by simp [Nil])
  refine ⟨h8, a, cap, rowIs_put1 h' _, ?_, hb⟩
  rcases hL with ⟨rfl, rfl, rfl⟩ | ⟨g, o, rfl, hL⟩
  · exact Or.inl ⟨rfl, rfl, rfl⟩
  · obtain ⟨n, f', h3⟩ := hL.rowHas0
    have hne : r ≠ g := rowIs_ne h' h3 (by decide)
    exact Or.inr ⟨g, o, rfl, hL.touch ((Touch.refl (· = r) w').setCell (p := ⟨r, 0, none⟩) rfl _) (fun e => hne e.symm)⟩

set_option maxHeartbeats 1000000 in
theorem rdropPage_any {w : World} {lo r : Nat} {l : List It} (h : RT w lo r l) (pcid page : Int) :
    Calls Try.prog 19 #[.pointer (some ⟨r, 0, none⟩), .int .i64 pcid, .int .i64 page] w fun e w' => e = .returned (.tuple #[]) ∧ RT w' w.heap.size r (dropPage pcid page l) ∧ Touch (· = r) w w' := by
  obtain ⟨h8, a, cap, hr, hL, _⟩ := h
  have c0 := hr.cell (i := 0) (by omega)
  go_enter Try.func19, Try.ntmps19
  go_wp2_with fail
  clear c0
  go_loopg [6, 14] l.length (fun g v i wr => ∃ j : Nat, g + j = l.length ∧ i = .int .i64 j ∧ ∃ aW cW, v = .slice aW (drops (fun x => It.serves x pcid page) (l.take j)).length cW ∧ Aside (LAt 44 wr aW cW (drops (fun x => It.serves x pcid page) (l.take j))) ∧ Aside (∀ k, blk aW k → w.heap.size ≤ k) ∧ Aside (Touch Nil w wr))
  case atStart => exact ⟨0, by omega, rfl, none, 0, by simp [drops], Or.inl ⟨rfl, rfl, by simp [drops]⟩, (fun k ⟨p, hp, _⟩ => by cases hp), Touch.refl _ _⟩
  case round =>
    obtain ⟨j, hgj, rfl, aW, cW, rfl, hW, hbW, hT⟩ := hrel
    by_cases hlt : j < l.length
    · have j1 : (j : Int) < l.length := by omega
      obtain ⟨k2, o2, rfl, hL'⟩ := LAt.row hL (by intro h; rw [h] at hlt; simp at hlt)
      have hy : l[j]? = some l[j] := List.getElem?_eq_getElem hlt
      generalize l[j] = y at hy
      obtain ⟨c0, c1, c2, c3, c4, c5⟩ := (hL'.touch hT.out (by simp [Nil])).six hy
      have hdr := drops_snoc (fun x => It.serves x pcid page) l j y hy
      have hend : Aside ((y.serves pcid page) = false → drops (fun x => It.serves x pcid page) (l.take (j + 1)) = drops (fun x => It.serves x pcid page) (l.take j) ++ [y]) := fun e => by rw [hdr, e]; rfl
      have hend' : Aside ((y.serves pcid page) = true → drops (fun x => It.serves x pcid page) (l.take (j + 1)) = drops (fun x => It.serves x pcid page) (l.take j)) := fun e => by rw [hdr, e]; simp
      obtain ⟨gN, oN, cN, wN, hrun, hLN0, hTN0, hbN0⟩ := snoc_run (P := Try.prog) (t := 39) hW.out hbW.out hT.out (by kernel_rfl) (by kernel_rfl) (by have := drops_len (fun x => It.serves x pcid page) (l.take j); simp at this; omega) y
      have hLN : Aside (LRow 44 wN gN oN cN (drops (fun x => It.serves x pcid page) (l.take j) ++ [y])) := hLN0
      have hTN : Aside (Touch Nil w wN) := hTN0
      have hbN : Aside (∀ k, blk (some (⟨gN, oN, none⟩ : Addr)) k → w.heap.size ≤ k) := hbN0
      have hskip : Aside (Touch Nil w (wr.alloc (.cells #[.int .i64 y.pc, .int .i64 y.pg, .int .i64 y.fr, .bool y.wr, .bool y.us, .bool y.gl] 44)) ∧ LAt 44 (wr.alloc (.cells #[.int .i64 y.pc, .int .i64 y.pg, .int .i64 y.fr, .bool y.wr, .bool y.us, .bool y.gl] 44)) aW cW (drops (fun x => It.serves x pcid page) (l.take j))) := ⟨hT.out.alloc _, hW.out.touch ((Touch.refl Nil wr).alloc _) (by simp [Nil])⟩
      clear hdr hLN0 hTN0 hbN0
      go_upto_region 4 with fail
      go_cut [32] (fun v wx => v = .bool (!(y.serves pcid page)) ∧ wx = wr.alloc (.cells #[.int .i64 y.pc, .int .i64 y.pg, .int .i64 y.fr, .bool y.wr, .bool y.us, .bool y.gl] 44))
      case first =>
        clear hend hend'
        cases hb : (y.pg == page)
        · have hb' : (y.pg != page) = true := by rw [bne, hb]; rfl
          go_wp2
          go_meet
          exact ⟨by rw [It.serves_eq, hb]; rfl, rfl⟩
        · have hb' : (y.pg != page) = false := by rw [bne, hb]; rfl
          cases hc : (y.pc == pcid)
          · have hc' : (y.pc != pcid) = true := by rw [bne, hc]; rfl
            go_wp2
            go_meet
            exact ⟨by rw [It.serves_eq, hb, hc]; rfl, rfl⟩
          · have hc' : (y.pc != pcid) = false := by rw [bne, hc]; rfl
            go_wp2
            go_meet
            exact ⟨by rw [It.serves_eq, hb, hc]; rfl, rfl⟩
      case rest =>
      obtain ⟨rfl, rfl⟩ := hcut
      cases hq : (y.serves pcid page)
      · go_wp2_with (refine Lib.wpList_append_run_sl _ rfl _ _ 39 rfl _ _ rfl rfl hrun ?_)
        go_roundg (l.length - (j + 1))
        case measure => omega
        case rel =>
          have e := hend.out hq
          exact ⟨j + 1, by omega, by go_num, _, cN, by rw [e]; simp, Or.inr ⟨gN, oN, rfl, by rw [e]; exact hLN.out⟩, hbN.out, hTN.out⟩
      · go_wp2
        go_roundg (l.length - (j + 1))
        case measure => omega
        case rel =>
          have e := hend'.out hq
          exact ⟨j + 1, by omega, by go_num, aW, cW, by rw [e], by rw [e]; exact hskip.out.2, hbW.out, hskip.out.1⟩
    · obtain rfl : j = l.length := by omega
      have hltz : ¬ (l.length : Int) < (l.length : Int) := by omega
      rw [List.take_length] at hW
      have hdl := drops_len (fun x => It.serves x pcid page) l
      have hr2 := hT.out.row hr (by simp [Nil])
      have c1 := hr2.cell (i := 0) (by omega)
      have f1 := hr2.frozen 0
      go_wp2
      go_end0
      exact ⟨rfl, RT.store hr hT.out hW.out (by omega) hbW.out, (hT.out.mono (S' := (· = r)) (by simp [Nil])).setCell (p := ⟨r, 0, none⟩) rfl _⟩

set_option maxHeartbeats 1000000 in
theorem rdropName_any {w : World} {lo r : Nat} {l : List It} (h : RT w lo r l) (pcid : Int) :
    Calls Try.prog 20 #[.pointer (some ⟨r, 0, none⟩), .int .i64 pcid] w fun e w' => e = .returned (.tuple #[]) ∧ RT w' w.heap.size r (dropName pcid l) ∧ Touch (· = r) w w' := by
  obtain ⟨h8, a, cap, hr, hL, _⟩ := h
  have c0 := hr.cell (i := 0) (by omega)
  go_enter Try.func20, Try.ntmps20
  go_wp2_with fail
  clear c0
  go_loopg [4, 12] l.length (fun g v i wr => ∃ j : Nat, g + j = l.length ∧ i = .int .i64 j ∧ ∃ aW cW, v = .slice aW (drops (fun x => It.ofName x pcid) (l.take j)).length cW ∧ Aside (LAt 44 wr aW cW (drops (fun x => It.ofName x pcid) (l.take j))) ∧ Aside (∀ k, blk aW k → w.heap.size ≤ k) ∧ Aside (Touch Nil w wr))
  case atStart => exact ⟨0, by omega, rfl, none, 0, by simp [drops], Or.inl ⟨rfl, rfl, by simp [drops]⟩, (fun k ⟨p, hp, _⟩ => by cases hp), Touch.refl _ _⟩
  case round =>
    obtain ⟨j, hgj, rfl, aW, cW, rfl, hW, hbW, hT⟩ := hrel
    by_cases hlt : j < l.length
    · have j1 : (j : Int) < l.length := by omega
      obtain ⟨k2, o2, rfl, hL'⟩ := LAt.row hL (by intro h; rw [h] at hlt; simp at hlt)
      have hy : l[j]? = some l[j] := List.getElem?_eq_getElem hlt
      generalize l[j] = y at hy
      obtain ⟨c0, c1, c2, c3, c4, c5⟩ := (hL'.touch hT.out (by simp [Nil])).six hy
      have hdr := drops_snoc (fun x => It.ofName x pcid) l j y hy
      have hend : Aside ((y.ofName pcid) = false → drops (fun x => It.ofName x pcid) (l.take (j + 1)) = drops (fun x => It.ofName x pcid) (l.take j) ++ [y]) := fun e => by rw [hdr, e]; rfl
      have hend' : Aside ((y.ofName pcid) = true → drops (fun x => It.ofName x pcid) (l.take (j + 1)) = drops (fun x => It.ofName x pcid) (l.take j)) := fun e => by rw [hdr, e]; simp
      obtain ⟨gN, oN, cN, wN, hrun, hLN0, hTN0, hbN0⟩ := snoc_run (P := Try.prog) (t := 39) hW.out hbW.out hT.out (by kernel_rfl) (by kernel_rfl) (by have := drops_len (fun x => It.ofName x pcid) (l.take j); simp at this; omega) y
      have hLN : Aside (LRow 44 wN gN oN cN (drops (fun x => It.ofName x pcid) (l.take j) ++ [y])) := hLN0
      have hTN : Aside (Touch Nil w wN) := hTN0
      have hbN : Aside (∀ k, blk (some (⟨gN, oN, none⟩ : Addr)) k → w.heap.size ≤ k) := hbN0
      have hskip : Aside (Touch Nil w (wr.alloc (.cells #[.int .i64 y.pc, .int .i64 y.pg, .int .i64 y.fr, .bool y.wr, .bool y.us, .bool y.gl] 44)) ∧ LAt 44 (wr.alloc (.cells #[.int .i64 y.pc, .int .i64 y.pg, .int .i64 y.fr, .bool y.wr, .bool y.us, .bool y.gl] 44)) aW cW (drops (fun x => It.ofName x pcid) (l.take j))) := ⟨hT.out.alloc _, hW.out.touch ((Touch.refl Nil wr).alloc _) (by simp [Nil])⟩
      clear hdr hLN0 hTN0 hbN0
      go_upto_region 4 with fail
      go_cut [23] (fun v wx => v = .bool (!(y.ofName pcid)) ∧ wx = wr.alloc (.cells #[.int .i64 y.pc, .int .i64 y.pg, .int .i64 y.fr, .bool y.wr, .bool y.us, .bool y.gl] 44))
      case first =>
        clear hend hend'
        cases hc : (y.pc == pcid)
        · have hc' : (y.pc != pcid) = true := by rw [bne, hc]; rfl
          go_wp2
          go_meet
          exact ⟨by rw [It.ofName_eq, hc]; rfl, rfl⟩
        · have hc' : (y.pc != pcid) = false := by rw [bne, hc]; rfl
          go_wp2
          go_meet
          exact ⟨by rw [It.ofName_eq, hc]; simp, rfl⟩
      case rest =>
      obtain ⟨rfl, rfl⟩ := hcut
      cases hq : (y.ofName pcid)
      · go_wp2_with (refine Lib.wpList_append_run_sl _ rfl _ _ 39 rfl _ _ rfl rfl hrun ?_)
        go_roundg (l.length - (j + 1))
        case measure => omega
        case rel =>
          have e := hend.out hq
          exact ⟨j + 1, by omega, by go_num, _, cN, by rw [e]; simp, Or.inr ⟨gN, oN, rfl, by rw [e]; exact hLN.out⟩, hbN.out, hTN.out⟩
      · go_wp2
        go_roundg (l.length - (j + 1))
        case measure => omega
        case rel =>
          have e := hend'.out hq
          exact ⟨j + 1, by omega, by go_num, aW, cW, by rw [e], by rw [e]; exact hskip.out.2, hbW.out, hskip.out.1⟩
    · obtain rfl : j = l.length := by omega
      have hltz : ¬ (l.length : Int) < (l.length : Int) := by omega
      rw [List.take_length] at hW
      have hdl := drops_len (fun x => It.ofName x pcid) l
      have hr2 := hT.out.row hr (by simp [Nil])
      have c1 := hr2.cell (i := 0) (by omega)
      have f1 := hr2.frozen 0
      go_wp2
      go_end0
      exact ⟨rfl, RT.store hr hT.out hW.out (by omega) hbW.out, (hT.out.mono (S' := (· = r)) (by simp [Nil])).setCell (p := ⟨r, 0, none⟩) rfl _⟩
end Go.Proofs.Ytleeodpnamnnfaa

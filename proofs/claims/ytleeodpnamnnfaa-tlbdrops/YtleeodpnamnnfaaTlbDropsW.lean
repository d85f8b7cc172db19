/-
  The walk of TlbDrops.
-/
import Derived.Test.YtleeodpnamnnfaaTlbI
import Derived.Test.YtleeodpnamnnfaaSlices
import Derived.Deep.CutBlock
namespace Go.Proofs.Ytleeodpnamnnfaa
open Go.ChangeShapes Go.WideShapes Go.ChangeAt Go.RowKit

theorem LAt.row' {ty : TypeId} {w : World} {a : Option Addr} {cap : Nat} {l : List It} (h : LAt ty w a cap l) (ha : ∃ p, a = some p) : ∃ k o, a = some ⟨k, o, none⟩ ∧ LRow ty w k o cap l := by
  obtain ⟨p, rfl⟩ := ha
  rcases h with ⟨h, _, _⟩ | h
  · cases h
  · exact h
theorem It.ofName_eq (x : It) (c : Int) : x.ofName c = ((x.pc == c) && !x.gl) := rfl
theorem It.serves_eq (x : It) (c d : Int) : x.serves c d = ((x.pg == d) && ((x.pc == c) || x.gl)) := rfl
/-- Which go. -/
def gone (by' : Bool) (c d : Int) (x : It) : Bool := if by' = true then x.serves c d else x.ofName c
theorem drops_snoc (p : It → Bool) (l : List It) (j : Nat) (y : It) (hy : l[j]? = some y) : drops p (l.take (j + 1)) = drops p (l.take j) ++ (if p y = true then [] else [y]) := by
  rw [List.take_add_one, hy]
  unfold drops
  rw [List.filter_append]
  cases hq : p y <;> simp [hq]

set_option maxHeartbeats 1000000 in
theorem tlbDrops_walk (a0 : Option Addr) (len0 cap0 : Nat) (z0 : List Int) (a1 a2 : Int) (a3 : Bool) (w : World) (r0 : Row .i64 w a0 len0 cap0 z0) :
    Calls Try.prog 7 #[.slice a0 len0 cap0, .int .i64 a1, .int .i64 a2, .bool a3] w fun e w' => e = .returned (.bool true) ∧ Below w.heap.size w w' := by
  obtain ⟨hm0, p0⟩ := r0.plain
  unfold maxLen at hm0
  clear r0
  go_enter Try.func7, Try.ntmps7
  go_upto_block 0 with (go_at_call 8; refine (st_new _).mono ?_; rintro e w1 ⟨rfl, hA, hS⟩)
  go_cut [10] (fun _ wx => ∃ gg l, St w wx w.heap.size gg l)
  case first =>
    go_wp2_with fail
    go_loopg [10] 12 (fun g i wr => ∃ k : Nat, g + k = 12 ∧ i = .int .i64 k ∧ ∃ gg l, St w wr w.heap.size gg l)
    case atStart => exact ⟨0, by omega, rfl, none, [], hA⟩
    case round =>
      clear hA hS
      obtain ⟨k, hgk, rfl, gg, l, hA⟩ := hrel
      by_cases hgo : k < len0 ∧ k < 12
      · obtain ⟨hg1, hg2⟩ := hgo
        rcases p0 with p0 | ⟨b1, o1, rfl, hb1, hc1⟩
        · omega
        have c0 := Plain.cell hc1 hb1 (hA.t.below (Nat.le_refl _) (fun _ e => e.elim)) k (by omega)
        have f0 := bounds_i64 (hc1 k (by omega)).2
        obtain ⟨y0, hy⟩ : ∃ y, z0.getD k 0 = y := ⟨_, rfl⟩
        rw [hy] at c0 f0
        have k1 : (k : Int) < len0 := by omega
        have k2 : (k : Int) < 12 := by omega
        go_wp2_with (first
          | (go_at_call 17; refine (item_any _ y0 (by omega) (by omega)).mono ?_; rintro e w2 ⟨rfl, t2⟩; replace hA := hA.nil t2; clear t2)
          | (go_at_call 10; refine (st_put hA (itemV y0)).mono ?_; rintro e w3 ⟨rfl, g3, hA3, _, _⟩))
        go_roundg (12 - (k + 1))
        case measure => omega
        case rel => exact ⟨k + 1, by omega, by go_num, g3, _, hA3⟩
      · clear p0
        by_cases hl : k < len0
        · have k1 : (k : Int) < len0 := by omega
          have k2 : ¬ ((k : Int) < 12) := by omega
          go_wp2
          go_meet
          exact ⟨gg, l, hA⟩
        · have k1 : ¬ ((k : Int) < len0) := by omega
          go_wp2
          go_meet
          exact ⟨gg, l, hA⟩
  case rest =>
  clear hA hS
  obtain ⟨gg, l, hA⟩ := hcut
  clear p0
  have hw1 := within_any a1 3
  have hw2 := within_any a2 5
  generalize a1 % 3 = c at hw1
  generalize a2 % 5 = d at hw2
  go_wp2_with (first
    | (go_at_call_has 9 (Value.int .i64 3); refine (hw1 _ (by omega) (by omega)).mono ?_; rintro e wq ⟨rfl, rfl⟩)
    | (go_at_call_has 9 (Value.int .i64 5); refine (hw2 _ (by omega) (by omega)).mono ?_; rintro e wq ⟨rfl, rfl⟩))
  with_reducible refine (st_list hA).mono ?_
  rintro e w2 ⟨a, cap, rfl, hA2, hL, hfr, ho, t2⟩
  have hS2 : w.heap.size < w2.heap.size := hA2.at'.blt
  have hg2 := hA2.at'.glt
  clear hA
  go_upto_block 2 with fail
  go_cut [11] (fun v wx => ∃ aW cW, v = .slice aW (drops (gone a3 c d) l).length cW ∧ LAt 26 wx aW cW (drops (gone a3 c d) l) ∧ (∀ k, blk aW k → w2.heap.size ≤ k) ∧ Touch Nil w2 wx)
  case first =>
    go_wp2_with fail
    have h8 := hA2.at'.1
    go_loopg [11, 43] l.length (fun g v i wr => ∃ j : Nat, g + j = l.length ∧ i = .int .i64 j ∧ ∃ aW cW, v = .slice aW (drops (gone a3 c d) (l.take j)).length cW ∧ Aside (LAt 26 wr aW cW (drops (gone a3 c d) (l.take j))) ∧ Aside (∀ k, blk aW k → w2.heap.size ≤ k) ∧ Aside (Touch Nil w2 wr))
    case atStart => exact ⟨0, by omega, rfl, none, 0, by simp [drops], Or.inl ⟨rfl, rfl, by simp [drops]⟩, (fun k ⟨p, hp, _⟩ => by cases hp), Touch.refl _ _⟩
    case round =>
      obtain ⟨j, hgj, rfl, aW, cW, rfl, hW, hbW, hT⟩ := hrel
      by_cases hlt : j < l.length
      · have j1 : (j : Int) < l.length := by omega
        obtain ⟨k2, o2, rfl, hL'⟩ := LAt.row hL (by intro h; rw [h] at hlt; simp at hlt)
        have hy : l[j]? = some l[j] := List.getElem?_eq_getElem hlt
        generalize l[j] = y at hy
        obtain ⟨c0, c1, c2, c3, c4, c5⟩ := (hL'.touch hT.out (by simp [Nil])).six hy
        have hdr : Aside (drops (gone a3 c d) (l.take (j + 1)) = drops (gone a3 c d) (l.take j) ++ (if gone a3 c d y = true then [] else [y])) := drops_snoc _ l j y hy
        go_upto_region 13 with fail
        have hTb : Touch Nil wr (wr.alloc (bxO y 26)) := (Touch.refl Nil wr).alloc _
        go_cut [14] (fun v wx => v = .bool (y.ofName c) ∧ wx = wr.alloc (bxO y 26))
        case first =>
          clear hdr
          cases hb : (y.pc == c)
          · go_wp2
            go_meet
            exact ⟨by rw [It.ofName_eq, hb]; rfl, rfl⟩
          · go_wp2
            go_meet
            exact ⟨by rw [It.ofName_eq, hb]; rfl, rfl⟩
        case rest =>
        obtain ⟨rfl, rfl⟩ := hcut
        dsimp only [bxO] at *
        have hTb2 : Touch Nil w2 ((wr.alloc (.cells #[.int .i64 y.pc, .int .i64 y.pg, .int .i64 y.fr, .bool y.wr, .bool y.us, .bool y.gl] 26)).alloc (.cells #[.int .i64 y.pc, .int .i64 y.pg, .int .i64 y.fr, .bool y.wr, .bool y.us, .bool y.gl] 26)) := (hT.out.trans hTb).alloc _
        obtain ⟨gN, oN, cN, wN, hrun, hLN, hTN, hfN⟩ := LAt.append (P := Try.prog) (t := 32) ((hW.out.touch hTb (by simp [Nil])).touch ((Touch.refl Nil _).alloc (.cells #[.int .i64 y.pc, .int .i64 y.pg, .int .i64 y.fr, .bool y.wr, .bool y.us, .bool y.gl] 26)) (by simp [Nil])) (by kernel_rfl) (by kernel_rfl) (by
            have := drops_len (gone a3 c d) (l.take j); simp at this; omega) y (wr.heap.size + 1) (fun i v hv => by
          have hj : i < 6 := (List.getElem?_eq_some_iff.1 hv).1
          have e : i = 0 ∨ i = 1 ∨ i = 2 ∨ i = 3 ∨ i = 4 ∨ i = 5 := by omega
          rcases e with rfl | rfl | rfl | rfl | rfl | rfl <;> (cases hv; simp))
        have hend : Aside (gone a3 c d y = false → drops (gone a3 c d) (l.take (j + 1)) = drops (gone a3 c d) (l.take j) ++ [y]) := fun e => by rw [hdr.out, e]; rfl
        have hend' : Aside (gone a3 c d y = true → drops (gone a3 c d) (l.take (j + 1)) = drops (gone a3 c d) (l.take j)) := fun e => by rw [hdr.out, e]; simp
        have hfin : Aside (Touch Nil w2 wN ∧ ∀ k, blk (some ⟨gN, oN, none⟩) k → w2.heap.size ≤ k) := by
          refine ⟨hTb2.transNew hTN (fun i hi e => by have := hbW.out i e; omega), ?_⟩
          rintro k ⟨p, hp, rfl⟩
          cases hp
          rcases hfN with ⟨h1, _⟩ | h1
          · exact Nat.le_trans hTb2.size h1
          · exact hbW.out _ ⟨_, h1, rfl⟩
        have hLN' : Aside (LRow 26 wN gN oN cN (drops (gone a3 c d) (l.take j) ++ [y])) := hLN
        clear hTN hfN hLN hdr
        have hskip : Aside (Touch Nil w2 (wr.alloc (.cells #[.int .i64 y.pc, .int .i64 y.pg, .int .i64 y.fr, .bool y.wr, .bool y.us, .bool y.gl] 26)) ∧ LAt 26 (wr.alloc (.cells #[.int .i64 y.pc, .int .i64 y.pg, .int .i64 y.fr, .bool y.wr, .bool y.us, .bool y.gl] 26)) aW cW (drops (gone a3 c d) (l.take j))) := ⟨hT.out.alloc _, hW.out.touch hTb (by simp [Nil])⟩
        cases a3
        · have hg : gone false c d y = y.ofName c := rfl
          cases hq : y.ofName c
          · go_wp2_with (refine Lib.wpList_append_run_sl _ rfl _ _ 32 rfl _ _ rfl rfl hrun ?_)
            go_roundg (l.length - (j + 1))
            case measure => omega
            case rel =>
              have e := hend.out (hg.trans hq)
              exact ⟨j + 1, by omega, by go_num, _, cN, by rw [e]; simp, Or.inr ⟨gN, oN, rfl, by rw [e]; exact hLN'.out⟩, hfin.out.2, hfin.out.1⟩
          · go_wp2
            go_roundg (l.length - (j + 1))
            case measure => omega
            case rel =>
              have e := hend'.out (hg.trans hq)
              exact ⟨j + 1, by omega, by go_num, aW, cW, by rw [e], by rw [e]; exact hskip.out.2, hbW.out, hskip.out.1⟩
        · have hg : gone true c d y = y.serves c d := rfl
          go_upto_region 15 with fail
          go_cut [14] (fun v wx => v = .bool (y.serves c d) ∧ wx = wr.alloc (.cells #[.int .i64 y.pc, .int .i64 y.pg, .int .i64 y.fr, .bool y.wr, .bool y.us, .bool y.gl] 26))
          case first =>
            cases hb : (y.pg == d)
            · go_wp2
              go_meet
              exact ⟨by rw [It.serves_eq, hb]; rfl, rfl⟩
            · cases hc : (y.pc == c)
              · go_wp2
                go_meet
                exact ⟨by rw [It.serves_eq, hb, hc]; rfl, rfl⟩
              · go_wp2
                go_meet
                exact ⟨by rw [It.serves_eq, hb, hc]; rfl, rfl⟩
          case rest =>
          obtain ⟨rfl, rfl⟩ := hcut
          cases hq : y.serves c d
          · go_wp2_with (refine Lib.wpList_append_run_sl _ rfl _ _ 32 rfl _ _ rfl rfl hrun ?_)
            go_roundg (l.length - (j + 1))
            case measure => omega
            case rel =>
              have e := hend.out (hg.trans hq)
              exact ⟨j + 1, by omega, by go_num, _, cN, by rw [e]; simp, Or.inr ⟨gN, oN, rfl, by rw [e]; exact hLN'.out⟩, hfin.out.2, hfin.out.1⟩
          · go_wp2
            go_roundg (l.length - (j + 1))
            case measure => omega
            case rel =>
              have e := hend'.out (hg.trans hq)
              exact ⟨j + 1, by omega, by go_num, aW, cW, by rw [e], by rw [e]; exact hskip.out.2, hbW.out, hskip.out.1⟩
      · obtain rfl : j = l.length := by omega
        have hltz : ¬ (l.length : Int) < (l.length : Int) := by omega
        go_wp2
        go_meet
        rw [List.take_length] at hW
        exact ⟨aW, cW, rfl, hW.out, hbW.out, hT.out⟩
  case rest =>
  obtain ⟨aW, cW, rfl, hW, hbW, hT⟩ := hcut
  have hA3 := hA2.nil hT
  clear hA2 hL hfr ho t2 hw1 hw2
  have hWlt : ∀ k, blk aW k → k < wc.heap.size := by
    rintro k ⟨p, hp, rfl⟩
    obtain ⟨k2, o2, e, h⟩ := hW.row' ⟨_, hp⟩
    rw [hp] at e; cases e
    exact h.lt
  have hWn : ∀ k, blk aW k → ¬ own w.heap.size gg k := by
    intro k hk
    have h1 := hbW k hk
    have h2 := hS2
    rintro (e | e)
    · omega
    · have := hg2 k e; omega
  go_wp2_with fail
  refine (tclone_any hA3.at').mono ?_
  rintro e w3 ⟨b', g', rfl, hK, hb', hg', t3⟩
  have hA4 : St w w3 w.heap.size gg l := hA3.nil t3
  have hW3 := hW.touch t3 (by simp [Nil])
  have hKd : ∀ k, own b' g' k → wc.heap.size ≤ k := by
    rintro k (e | e)
    · omega
    · exact hg' k e
  have hPd : ∀ k, own w.heap.size gg k → k < wc.heap.size := by
    rintro k (e | e)
    · have := hA3.at'.blt; omega
    · exact hA3.at'.glt k e
  have hwc : w.heap.size ≤ wc.heap.size := hA3.t.size
  clear hA3 hW hb' hg' t3
  cases a3
  · go_wp2_with fail
    with_reducible refine (st_name hA4 c).mono ?_
    rintro e w4 ⟨rfl, hA5, t4⟩
    change St w w4 w.heap.size gg (drops (gone false c d) l) at hA5
    have hK4 := hK.touch t4 (fun k hk e => by have := hKd k hk; have := hPd k e; omega)
    have hW4 := hW3.touch t4 hWn
    clear hA4 hK hW3
    go_wp2_with fail
    with_reducible refine (tdropAll_any hK4).mono ?_
    rintro e w5 ⟨rfl, hK5, t5⟩
    have hA6 : St w w5 w.heap.size gg (drops (gone false c d) l) := ⟨hA5.at'.touch t5 (fun k hk e => by have := hKd k e; have := hPd k hk; omega), hA5.t.transNew t5 (fun i hi e => by have := hKd i e; omega), hA5.p, hA5.gg⟩
    have hW5 := hW4.touch t5 (fun k hk e => by have := hKd k e; have := hWlt k hk; omega)
    clear hA5 hK4 hW4
    go_wp2_with fail
    with_reducible refine (st_list hA6).mono ?_
    rintro e w6 ⟨a6, cap6, rfl, hA7, hL6, _, _, t6⟩
    go_wp2_with fail
    have h9 := Nat.le_succ_of_le hA7.at'.1
    with_reducible refine (isame_yes hL6 (hW5.touch t6 (by simp [Nil])) h9).mono ?_
    rintro e w7 ⟨rfl, t7⟩
    go_wp2_with fail
    with_reducible refine (tlist_any ((hK5.nil t6).nil t7)).mono ?_
    rintro e w8 ⟨a8, cap8, rfl, _, _, _, t8⟩
    go_wp2_with fail
    refine (wakes6_any _).mono ?_
    rintro e w9 ⟨rfl, t9⟩
    go_wp2_with fail
    go_ret
    exact ⟨rfl, (((hA7.t.trans t7).trans t8).trans t9).below (Nat.le_refl _) (by simp [Nil])⟩
  · go_wp2_with fail
    with_reducible refine (st_page hA4 c d).mono ?_
    rintro e w4 ⟨rfl, hA5, t4⟩
    change St w w4 w.heap.size gg (drops (gone true c d) l) at hA5
    have hK4 := hK.touch t4 (fun k hk e => by have := hKd k hk; have := hPd k e; omega)
    have hW4 := hW3.touch t4 hWn
    clear hA4 hK hW3
    go_wp2_with fail
    with_reducible refine (tdropAll_any hK4).mono ?_
    rintro e w5 ⟨rfl, hK5, t5⟩
    have hA6 : St w w5 w.heap.size gg (drops (gone true c d) l) := ⟨hA5.at'.touch t5 (fun k hk e => by have := hKd k e; have := hPd k hk; omega), hA5.t.transNew t5 (fun i hi e => by have := hKd i e; omega), hA5.p, hA5.gg⟩
    have hW5 := hW4.touch t5 (fun k hk e => by have := hKd k e; have := hWlt k hk; omega)
    clear hA5 hK4 hW4
    go_wp2_with fail
    with_reducible refine (st_list hA6).mono ?_
    rintro e w6 ⟨a6, cap6, rfl, hA7, hL6, _, _, t6⟩
    go_wp2_with fail
    have h9 := Nat.le_succ_of_le hA7.at'.1
    with_reducible refine (isame_yes hL6 (hW5.touch t6 (by simp [Nil])) h9).mono ?_
    rintro e w7 ⟨rfl, t7⟩
    go_wp2_with fail
    with_reducible refine (tlist_any ((hK5.nil t6).nil t7)).mono ?_
    rintro e w8 ⟨a8, cap8, rfl, _, _, _, t8⟩
    go_wp2_with fail
    refine (wakes6_any _).mono ?_
    rintro e w9 ⟨rfl, t9⟩
    go_wp2_with fail
    go_ret
    exact ⟨rfl, (((hA7.t.trans t7).trans t8).trans t9).below (Nat.le_refl _) (by simp [Nil])⟩
end Go.Proofs.Ytleeodpnamnnfaa

/-
  The walk of TlbPlays.
-/
import Derived.Test.YtleeodpnamnnfaaRTlbE
import Derived.Test.YtleeodpnamnnfaaSlices
namespace Go.Proofs.Ytleeodpnamnnfaa
open Go.ChangeShapes Go.WideShapes Go.ChangeAt Go.RowKit

theorem TAt.not_row {w : World} {P k n : Nat} {g : Option Nat} {l : List It} {t : TypeId} {f : Nat → Value} (h : TAt w P g l) (hk : w.rowIs k t n f) (h1 : t ≠ 52) (h2 : t ≠ 26) : ¬ own P g k := by
  obtain ⟨_, ⟨rfl, _, h⟩ | ⟨b, cap, rfl, h, hL⟩⟩ := h
  · rintro (e | e)
    · exact rowIs_ne hk h h1 e
    · cases e
  · rintro (e | e)
    · exact rowIs_ne hk h h1 e
    · cases e
      obtain ⟨m, f', h3⟩ := hL.rowHas0
      exact rowIs_ne hk h3 h2 rfl
theorem RT.row {w : World} {lo r : Nat} {l : List It} (h : RT w lo r l) : ∃ f, w.rowIs r 41 1 f := by
  obtain ⟨_, a, cap, hr, _⟩ := h
  exact ⟨_, hr⟩
/-- Both, side by side. -/
structure Duo (w W : World) (P r : Nat) (g : Option Nat) (l : List It) : Prop where
  s : St w W P g l
  u : ∃ lo, RT W lo r l
  n : w.heap.size ≤ r
namespace Duo
variable {w W W' : World} {P r : Nat} {g g' : Option Nat} {l l' : List It}
theorem nil (h : Duo w W P r g l) (t : Touch Nil W W') : Duo w W' P r g l := ⟨h.s.nil t, by obtain ⟨lo, hu⟩ := h.u; exact ⟨lo, hu.nil t⟩, h.n⟩
theorem away (h : Duo w W P r g l) : ¬ own P g r := by
  obtain ⟨lo, hu⟩ := h.u
  obtain ⟨f, hr⟩ := hu.row
  exact h.s.at'.not_row hr (by decide) (by decide)
/-- Ours has gone ahead. -/
theorem ours {lo : Nat} (h : TAt W P g l) (hu : RT W lo r l') (t : Touch (own P g) W W') : RT W' lo r l' := by
  obtain ⟨f, hr⟩ := hu.row
  exact hu.touch t (h.not_row hr (by decide) (by decide)) (fun k n f hk => h.not_row hk (by decide) (by decide))
/-- The document's has come behind. -/
theorem theirs (h : St w W P g l') (hr : w.heap.size ≤ r) (hn : ¬ own P g r) (t : Touch (· = r) W W') : St w W' P g l' :=
  ⟨h.at'.touch t (fun k hk e => hn (by rw [← e]; exact hk)), h.t.transNew t (fun i hi e => by omega), h.p, h.gg⟩
/-- Both have done the same. -/
theorem both {lo lo' B : Nat} {x : It} {l0 : List It} (h : St w W P g' l') (hu : RT W lo r l0) (hr : w.heap.size ≤ r) (hB : Box W P g' B x) (hBr : ¬ B = r) (t : Touch (· = r) W W') (hu' : RT W' lo' r l') : Duo w W' P r g' l' ∧ Box W' P g' B x := by
  obtain ⟨f, hrow⟩ := hu.row
  exact ⟨⟨theirs h hr (h.at'.not_row hrow (by decide) (by decide)) t, ⟨lo', hu'⟩, hr⟩, hB.touch t hBr⟩
end Duo

theorem box_ne' {w w2 : World} {o : Obj} {S : Nat → Prop} (t : Touch S (w.alloc o) w2) : w.heap.size ≠ w2.heap.size := by
  have := t.size
  rw [World.size_alloc] at this
  omega
set_option maxRecDepth 10000 in
set_option maxHeartbeats 1000000 in
theorem tlbPlays_walk (a0 : Option Addr) (len0 cap0 : Nat) (z0 : List Int) (w : World) (r0 : Row .i64 w a0 len0 cap0 z0) :
    Calls Try.prog 5 #[.slice a0 len0 cap0] w fun e w' => e = .returned (.bool true) ∧ Below w.heap.size w w' := by
  obtain ⟨hm0, p0⟩ := r0.plain
  unfold maxLen at hm0
  clear r0
  go_enter Try.func5, Try.ntmps5
  go_upto_block 0 with (go_at_call 8; refine (st_new _).mono ?_; rintro e w1 ⟨rfl, hA, hS⟩)
  have hD : Duo w (w1.alloc (Obj.cells #[Value.slice none 0 0] 41)) w.heap.size (w.heap.size + 1) none [] := by
    refine ⟨hA.alloc _, ⟨0, by simp, none, 0, ?_, Or.inl ⟨rfl, rfl, rfl⟩, fun k _ => Nat.zero_le _⟩, by omega⟩
    rw [← hS]
    exact World.rowIs_alloc w1 _ _ _ (fun i hi => by
      have : i = 0 := by simpa using hi
      subst this; rfl)
  clear hA hS
  generalize w.heap.size + 1 = r at hD ⊢
  go_cut [5] (fun _ wx => ∃ g l, Duo w wx w.heap.size r g l)
  case first =>
    go_wp2_with fail
    go_loopg [5] 90 (fun gg i wr => ∃ k : Nat, gg + k = 90 ∧ k % 2 = 0 ∧ i = .int .i64 k ∧ ∃ g l, Duo w wr w.heap.size r g l)
    case atStart => exact ⟨0, by omega, by omega, rfl, none, [], hD⟩
    case round =>
      clear hD
      obtain ⟨k, hgk, hk2, rfl, g, l, hD⟩ := hrel
      by_cases hgo : k + 1 < len0 ∧ k < 90
      · obtain ⟨hg1, hg2⟩ := hgo
        rcases p0 with p0 | ⟨b1, o1, rfl, hb1, hc1⟩
        · omega
        have hBl := hD.s.t.below (Nat.le_refl _) (fun _ e => e.elim)
        have c0 := Plain.cell hc1 hb1 hBl k (by omega)
        have c1 := Plain.cell hc1 hb1 hBl (k + 1) (by omega)
        have f0 := bounds_i64 (hc1 k (by omega)).2
        have f1 := bounds_i64 (hc1 (k + 1) (by omega)).2
        obtain ⟨y0, hy0⟩ : ∃ y, z0.getD k 0 = y := ⟨_, rfl⟩
        obtain ⟨y1, hy1⟩ : ∃ y, z0.getD (k + 1) 0 = y := ⟨_, rfl⟩
        rw [hy0] at c0 f0
        rw [hy1] at c1 f1
        have k1 : (k : Int) + 1 < len0 := by omega
        have k2 : (k : Int) < 90 := by omega
        have k3 : (k : Int) < len0 := by omega
        go_wp2_with fail
        with_reducible refine (item_any _ y1 (by omega) (by omega)).mono ?_
        rintro e w2 ⟨rfl, t2⟩
        generalize itemV y1 = x
        have hB : Box (w2.alloc (bxO x 26)) w.heap.size g w2.heap.size x := Box.mk' (hD.nil t2).s.at' x
        have hBr : ¬ (w2.heap.size = r) := by
          obtain ⟨lo, hu⟩ := (hD.nil t2).u
          have := hu.lt
          omega
        replace hD := (hD.nil t2).nil ((Touch.refl Nil w2).alloc (bxO x 26))
        have c3 := Plain.cell hc1 hb1 (hD.s.t.below (Nat.le_refl _) (fun _ e => e.elim)) k (by omega)
        have c4 := Plain.cell hc1 hb1 (hD.s.t.below (Nat.le_refl _) (fun _ e => e.elim)) (k + 1) (by omega)
        rw [hy0] at c3
        rw [hy1] at c4
        have x6 := hB.six
        clear c0 c1 t2
        go_upto_region 8 with fail
        dsimp only [bxO] at *
        generalize w2.alloc (.cells #[.int .i64 x.pc, .int .i64 x.pg, .int .i64 x.fr, .bool x.wr, .bool x.us, .bool x.gl] 26) = w3 at *
        generalize w2.heap.size = B at *
        go_wp2_with fail
        have hv1 := Int.emod_nonneg y0 (b := 11) (by omega)
        have hv2 := Int.emod_lt_of_pos y0 (b := 11) (by omega)
        with_reducible refine (within_any y0 11 _ (by omega) (by omega)).mono ?_
        rintro e wq ⟨rfl, rfl⟩
        generalize y0 % 11 = v at *
        go_upto_block 2 with fail
        go_cut [39] (fun _ wx => ∃ g' l', Duo w wx w.heap.size r g' l' ∧ Box wx w.heap.size g' B x)
        case first =>
          obtain ⟨lo, hu⟩ := hD.u
          have hn := hD.n
          have hS := hD.s
          have hvv : (v = 0 ∨ v = 1 ∨ v = 2 ∨ v = 3 ∨ v = 4 ∨ v = 5) ∨ v = 6 ∨ v = 7 ∨ v = 8 ∨ v = 9 ∨ v = 10 := by omega
          rcases hvv with hvv | rfl | rfl | rfl | rfl | rfl
          · rcases hvv with rfl | rfl | rfl | rfl | rfl | rfl
            all_goals
              clear hv1 hv2
              go_wp2_with fail
              with_reducible refine (st_put hS x).mono ?_
              rintro e w4 ⟨rfl, g4, S4, t4, fr4⟩
              have hu4 := Duo.ours hS.at' hu t4
              have hB4 := hB.put t4 fr4
              have x7 := hB4.six
              go_wp2_with fail
              with_reducible refine (rput_any hu4 x).mono ?_
              rintro e w5 ⟨rfl, hu5, t5⟩
              go_wp2
              go_meet
              obtain ⟨h1, h2⟩ := Duo.both S4 hu4 hn hB4 hBr t5 hu5
              exact ⟨g4, _, h1, h2⟩
          · go_wp2_with fail
            with_reducible refine (st_page hS x.pc x.pg).mono ?_
            rintro e w4 ⟨rfl, S4, t4⟩
            have hu4 := Duo.ours hS.at' hu t4
            have hB4 := hB.drop t4
            have x7 := hB4.six
            go_wp2_with fail
            with_reducible refine (rdropPage_any hu4 x.pc x.pg).mono ?_
            rintro e w5 ⟨rfl, hu5, t5⟩
            go_wp2
            go_meet
            obtain ⟨h1, h2⟩ := Duo.both S4 hu4 hn hB4 hBr t5 hu5
            exact ⟨g, _, h1, h2⟩
          · go_wp2_with fail
            with_reducible refine (st_name hS x.pc).mono ?_
            rintro e w4 ⟨rfl, S4, t4⟩
            have hu4 := Duo.ours hS.at' hu t4
            have hB4 := hB.drop t4
            have x7 := hB4.six
            go_wp2_with fail
            with_reducible refine (rdropName_any hu4 x.pc).mono ?_
            rintro e w5 ⟨rfl, hu5, t5⟩
            go_wp2
            go_meet
            obtain ⟨h1, h2⟩ := Duo.both S4 hu4 hn hB4 hBr t5 hu5
            exact ⟨g, _, h1, h2⟩
          · go_wp2_with fail
            have hq1 := Int.emod_nonneg y1 (b := 10) (by omega)
            have hq2 := Int.emod_lt_of_pos y1 (b := 10) (by omega)
            with_reducible refine (within_any y1 10 _ (by omega) (by omega)).mono ?_
            rintro e wq ⟨rfl, rfl⟩
            generalize y1 % 10 = q at *
            go_wp2_with fail
            with_reducible refine (st_forget hS (q - 1)).mono ?_
            cases hh : hasN (q - 1) l
            all_goals
              rintro e w4 ⟨rfl, S4, t4⟩
              have hu4 := Duo.ours hS.at' hu t4
              have hB4 := hB.drop t4
              go_wp2_with fail
              have hrf := rforget_any hu4 (q - 1)
              rw [hh] at hrf
              with_reducible refine hrf.mono ?_
              rintro e w5 ⟨rfl, ⟨lo5, hu5⟩, t5⟩
              go_wp2
              go_meet
              obtain ⟨h1, h2⟩ := Duo.both S4 hu4 hn hB4 hBr t5 hu5
              exact ⟨g, _, h1, h2⟩
          · go_upto_region 33 with fail
            by_cases hq4 : y1.tmod 4 = 0
            · go_wp2_with fail
              with_reducible refine (st_all hS).mono ?_
              rintro e w4 ⟨rfl, S4, t4⟩
              have hu4 := Duo.ours hS.at' hu t4
              have hB4 : Box w4 w.heap.size none B x := hB.put t4 (Fr.none _ _)
              obtain ⟨f4, hrow4⟩ := hu4.row
              have d4 := hrow4.cell (i := 0) (by omega)
              have z4 := hrow4.frozen 0
              go_wp2
              go_meet
              obtain ⟨h1, h2⟩ := Duo.both S4 hu4 hn hB4 hBr ((Touch.refl (· = r) w4).setCell (p := ⟨r, 0, none⟩) rfl _) (RT.store (lo := 0) hrow4 (Touch.refl Nil w4) (Or.inl ⟨rfl, rfl, rfl⟩) (by simp) (fun k _ => Nat.zero_le k))
              exact ⟨none, [], h1, h2⟩
            · go_wp2
              go_meet
              exact ⟨g, l, hD, hB⟩
          · go_wp2_with fail
            with_reducible refine (tclone_any hS.at').mono ?_
            rintro e w4 ⟨b', g', rfl, hK, hb', hg', t4⟩
            go_wp2_with fail
            with_reducible refine (tsame_yes hK (hu.nil t4)).mono ?_
            rintro e w5 ⟨rfl, t5⟩
            have hBl5 := ((hS.t.trans t4).trans t5).below (Nat.le_refl _) (fun _ e => e.elim)
            have c5 := Plain.cell hc1 hb1 hBl5 (k + 1) (by omega)
            rw [hy1] at c5
            go_wp2_with fail
            have hwb : -9223372036854775808 ≤ wrap64 (y1 + 1) ∧ wrap64 (y1 + 1) < 9223372036854775808 := by unfold wrap64; omega
            with_reducible refine (item_any _ (wrap64 (y1 + 1)) hwb.1 hwb.2).mono ?_
            rintro e w6 ⟨rfl, t6⟩
            generalize itemV (wrap64 (y1 + 1)) = x2
            have hK6 := (hK.nil t5).nil t6
            go_wp2_with fail
            with_reducible refine (tput_any hK6 x2).mono ?_
            rintro e w7 ⟨rfl, g7, hK7, t7, fr7⟩
            go_wp2_with fail
            with_reducible refine (tdropAll_any hK7).mono ?_
            rintro e w8 ⟨rfl, hK8, t8⟩
            have z6 : w3.heap.size ≤ w6.heap.size := Nat.le_trans t4.size (Nat.le_trans t5.size t6.size)
            have tE : Touch Nil w3 w8 := by
              refine (((t4.trans t5).trans t6).transNew t7 ?_).transNew t8 ?_
              · rintro i hi (e | e)
                · omega
                · have := hg' i e; omega
              · rintro i hi (e | e)
                · omega
                · rcases fr7 with f | f
                  · have := hg' i (f ▸ e); omega
                  · have := f i e; omega
            go_wp2
            go_meet
            exact ⟨g, l, hD.nil tE, hB.nil tE⟩
        case rest =>
          clear hD hB x6 c3 c4
          obtain ⟨g5, l5, hD, hB⟩ := hcut
          obtain ⟨lo, hu⟩ := hD.u
          have x6 := hB.six
          go_wp2_with fail
          with_reducible refine (st_find hD.s x.pc x.pg).mono ?_
          rintro e w4 ⟨rfl, S4, t4⟩
          have hf := rfind_any (w := w4.alloc (bxO (found x.pc x.pg l5) 26)) ((hu.nil t4).nil ((Touch.refl Nil w4).alloc _)) x.pc x.pg
          have hB4 := (hB.nil t4).nil ((Touch.refl Nil w4).alloc (bxO (found x.pc x.pg l5) 26))
          have x7 := hB4.six
          generalize found x.pc x.pg l5 = y at *
          generalize finds x.pc x.pg l5 = ok at *
          go_wp2_with fail
          with_reducible refine hf.mono ?_
          rintro e w5 ⟨rfl, t5⟩
          have tE := (t4.alloc (bxO y 26)).trans (t5.alloc (bxO y 44))
          obtain ⟨v0, v1, v2, v3, v4, v5⟩ := box6 (t5.alloc (.cells #[.int .i64 y.pc, .int .i64 y.pg, .int .i64 y.fr, .bool y.wr, .bool y.us, .bool y.gl] 44))
          have hne := box_ne' t5
          have hok : (ok != ok) = false := bne_self_eq_false ok
          clear hf x6 x7 hB4
          go_wp2
          go_roundg (90 - (k + 2))
          case measure => omega
          case rel => exact ⟨k + 2, by omega, by omega, by go_num, g5, l5, hD.nil tE⟩
      · clear p0
        by_cases hl : k + 1 < len0
        · have k1 : (k : Int) + 1 < len0 := by omega
          have k2 : ¬ ((k : Int) < 90) := by omega
          go_wp2
          go_meet
          exact ⟨g, l, hD⟩
        · have k1 : ¬ ((k : Int) + 1 < len0) := by omega
          go_wp2
          go_meet
          exact ⟨g, l, hD⟩
  case rest =>
  clear hD
  obtain ⟨g, l, hD⟩ := hcut
  clear p0
  obtain ⟨lo, hu⟩ := hD.u
  go_wp2_with fail
  with_reducible refine (tsame_yes hD.s.at' hu).mono ?_
  rintro e w2 ⟨rfl, t2⟩
  go_wp2_with fail
  refine (wakes6_any _).mono ?_
  rintro e w3 ⟨rfl, t3⟩
  go_wp2_with fail
  go_ret
  exact ⟨rfl, ((hD.s.t.trans t2).trans t3).below (Nat.le_refl _) (by simp [Nil])⟩
end Go.Proofs.Ytleeodpnamnnfaa

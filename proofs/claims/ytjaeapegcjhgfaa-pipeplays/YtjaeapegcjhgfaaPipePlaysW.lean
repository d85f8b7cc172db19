/-
  PipePlays: its walk.
-/
import Derived.Test.YtjaeapegcjhgfaaOwnU
import Derived.Test.YtjaeapegcjhgfaaSlices
namespace Go.Proofs.Ytjaeapegcjhgfaa
open Go.ChangeShapes Go.WideShapes Go.ChangeAt Go.RowKit

/-- A slice that holds these words. -/
def WdsL (w : World) (a : Option Addr) (l : List Int) : Prop :=
  l = [] ∨ ∃ b o, a = some ⟨b, o, none⟩ ∧ b < w.heap.size ∧ ∀ i, i < l.length → w.cell? ⟨b, o + i, none⟩ = some (.int .u64 (l.getD i 0))
theorem WdsL.touch {w w' : World} {a : Option Addr} {l : List Int} (h : WdsL w a l) (t : Touch Nil w w') : WdsL w' a l := by
  rcases h with h | ⟨b, o, rfl, hb, hc⟩
  · exact Or.inl h
  · refine Or.inr ⟨b, o, rfl, Nat.lt_of_lt_of_le hb t.size, fun i hi => ?_⟩
    have := hc i hi
    unfold World.cell? at this ⊢
    rw [t.block b hb (fun q => q.elim)]; exact this
set_option maxHeartbeats 1000000 in
theorem usame_any {w : World} {a a' : Option Addr} {l : List Int} (h : WdsL w a l) (h' : WdsL w a' l) (n : Nat) (hn : l.length = n) (few : n ≤ 1000000) (k k' : Nat) :
    Calls Try.prog 13 #[.slice a n k, .slice a' n k'] w fun e w' => e = .returned (.bool true) ∧ Touch Nil w w' := by
  go_enter Try.func13, Try.ntmps13
  go_wp2_with fail
  go_loopg [5] n (fun g v wr => ∃ j : Nat, g + j = n ∧ v = .int .i64 j ∧ Aside (Touch Nil w wr))
  case atStart => exact ⟨0, by omega, rfl, Touch.refl _ w⟩
  case round =>
    obtain ⟨j, hgj, rfl, tk⟩ := hrel
    by_cases hlt : j < n
    · have j1 : (j : Int) < n := by omega
      rcases h.touch tk.out with h | ⟨b, o, rfl, hb, hc⟩
      · rw [h] at hn; simp at hn; omega
      rcases h'.touch tk.out with h' | ⟨b', o', rfl, hb', hc'⟩
      · rw [h'] at hn; simp at hn; omega
      have q1 := hc j (by omega)
      have q2 := hc' j (by omega)
      generalize l.getD j 0 = x at q1 q2
      clear hc hc' h h'
      go_wp2_with fail
      go_quiet (fail)
      go_wp2_with fail
      go_roundg (n - (j + 1))
      case measure => omega
      case rel => exact ⟨j + 1, by omega, by go_num, tk.out.drews _⟩
    · have hjn : j = n := by omega
      subst hjn
      go_wp2_with fail
      go_ret
      exact ⟨rfl, tk.out⟩
theorem own_wds {w : World} {base n cap : Nat} {a : Option Addr} {l : List Int} (h : w.ownsRow base 22 1 (.slice a n cap) n (ulist l)) (hn : l.length = n) : WdsL w a l := by
  obtain ⟨a', c', e, _, _, hg⟩ := own_shape h
  cases e
  rcases Nat.eq_zero_or_pos n with q | q
  · exact Or.inl (List.length_eq_zero_iff.1 (by omega))
  · obtain ⟨g, rfl⟩ := hg q
    obtain ⟨_, hr⟩ := own_row h
    refine Or.inr ⟨g, 0, rfl, hr.lt, fun i hi => ?_⟩
    rw [Nat.zero_add, hr.cell (by omega), ulist_get l hi]
    rfl
theorem OwnU.wds {w : World} {lo cap : Nat} {a : Option Addr} {l : List Int} (h : OwnU w lo a cap l) : WdsL w a l := by
  rcases h.cells with h | ⟨b, o, e, hb, hc⟩
  · exact Or.inl h
  · exact Or.inr ⟨b, o, e, hb, hc⟩
set_option maxRecDepth 20000 in
set_option maxHeartbeats 4000000 in
theorem pipePlays_walk (a0 : Option Addr) (len0 cap0 : Nat) (z0 : List Int) (w : World) (r0 : Row .u64 w a0 len0 cap0 z0) :
    Calls Try.prog 4 #[.slice a0 len0 cap0] w fun e w' => e = .returned (.bool true) ∧ Touch Nil w w' := by
  obtain ⟨hm0, p0⟩ := r0.plain
  unfold maxLen at hm0
  clear r0
  go_enter Try.func4, Try.ntmps4
  go_wp2_with fail
  with_reducible refine (pnew_any w).mono ?_
  rintro e x1 ⟨rfl, h1, T1, s1⟩
  obtain ⟨B, hB, hB1⟩ : ∃ B, w.heap.size = B ∧ w.heap.size ≤ B := ⟨_, rfl, by omega⟩
  rw [hB] at h1 ⊢
  clear s1 hB
  go_wp2_with fail
  go_loopg [4, 5] 60 (fun g vw ii wr => ∃ (k : Nat) (l : List Int) (a : Option Addr) (cap : Nat), g + k = 60 ∧ vw = .slice a l.length cap ∧ ii = .int .i64 k ∧ Aside (OwnU wr (B + 2) a cap l) ∧ Aside (PAt wr (B + 1) B l) ∧ Aside (Touch Nil w wr))
  case atStart => exact ⟨0, [], none, 0, by omega, rfl, rfl, OwnU.nil _ _, h1, T1⟩
  case round =>
    clear h1 T1
    obtain ⟨k, l, a, cap, hgk, rfl, rfl, hO, hP, tk⟩ := hrel
    have hO1 := hO.out
    have hP1 := hP.out
    have t1 := tk.out
    clear hO hP tk
    by_cases hgo : k < len0 ∧ k < 60
    · obtain ⟨g1, g2⟩ := hgo
      rcases p0 with p0 | ⟨b0, o0, rfl, hb0, hc0⟩
      · omega
      have cz : Hid (∀ wx, Touch Nil w wx → wx.cell? ⟨b0, o0 + k, none⟩ = some (.int .u64 (z0.getD k 0))) := fun wx t => Plain.cell hc0 hb0 (t.below (Nat.le_refl _) (fun _ e => e.elim)) k g1
      clear hc0
      generalize z0.getD k 0 = y0 at cz
      have c0 := cz.out wr t1
      have k1 : (k : Int) < len0 := by omega
      have k2 : (k : Int) < 60 := by omega
      have few := hP1.few
      have hcl := hO1.capLe
      unfold maxLen at hcl
      go_upto_if 26 with fail
      go_cut [4] (fun v4 wx => ∃ (l' : List Int) (a' : Option Addr) (cap' : Nat), v4 = .slice a' l'.length cap' ∧ Aside (OwnU wx (B + 2) a' cap' l') ∧ Aside (PAt wx (B + 1) B l') ∧ Aside (Touch Nil w wx))
      case first =>
        cases hb : decide (y0.tmod 5 < 3)
        · cases l with
          | nil =>
            have hr := precv_none hP1
            have m0 : min (1 : Int) 0 = 0 := rfl
            rcases hO1 with ⟨rfl, rfl, _⟩ | ⟨g, o, m, f, rfl, h2, h3, h4, h5, h6, h8⟩
            · go_wp2_with fail
              with_reducible refine hr.mono ?_
              rintro e wq ⟨rfl, rfl⟩
              clear hr
              go_wp2_with fail
              go_meet
              exact ⟨[], none, 0, rfl, OwnU.nil _ _, hP1, t1⟩
            · have hO1 : OwnU wr (B + 2) (some ⟨g, o, none⟩) cap [] := Or.inr ⟨g, o, m, f, rfl, h2, h3, h4, h5, h6, h8⟩
              clear h2 h3 h4 h5 h6 h8
              go_wp2_with fail
              with_reducible refine hr.mono ?_
              rintro e wq ⟨rfl, rfl⟩
              clear hr
              go_wp2_with fail
              go_meet
              exact ⟨[], _, cap, rfl, hO1, hP1, t1⟩
          | cons x l =>
            have hr := precv_some hP1
            have hlen : (x :: l).length = l.length + 1 := rfl
            rcases hO1 with ⟨_, _, e⟩ | ⟨g, o, m, f, rfl, h2, h3, h4, h5, h6, h8⟩
            · cases e
            have hO1 : OwnU wr (B + 2) (some ⟨g, o, none⟩) cap (x :: l) := Or.inr ⟨g, o, m, f, rfl, h2, h3, h4, h5, h6, h8⟩
            clear h2 h3 h4 h5 h6 h8
            go_wp2_with fail
            with_reducible refine hr.mono ?_
            rintro e w2 ⟨rfl, hP2, t2⟩
            have T2 := t1.transNew t2 (fun i hi e => by omega)
            have hO2 := hO1.touch t2 (fun i hi _ e => by omega)
            have c1 : w2.cell? ⟨g, o, none⟩ = some (.int .u64 x) := by
              obtain ⟨b, o', e, _, hc⟩ := hO2.cells.resolve_left (by simp)
              cases e
              exact hc 0 (by simp)
            have hd : OwnU w2 (B + 2) (some ⟨g, o + 1, none⟩) (cap - 1) l := hO2.drop 1 (by simp)
            have he : cap = 1 → OwnU w2 (B + 2) (some ⟨g, o, none⟩) 0 l := fun q => by
              rcases hO2 with ⟨q, _⟩ | ⟨g', o', m, f, e, h2, h3, h4, h5, h6, h8⟩
              · cases q
              · cases e
                have e0 : l = [] := List.length_eq_zero_iff.1 (by simp at h3; omega)
                subst e0
                exact Or.inr ⟨g, o, m, f, rfl, h2, Nat.le_refl _, Nat.zero_le _, h5, by omega, fun i hi => by simp at hi⟩
            obtain ⟨n, hn⟩ : ∃ n, l.length = n := ⟨_, rfl⟩
            have m1 : min (1 : Int) ((n : Int) + 1) = 1 := by omega
            have n1 : (1 : Int) ≤ (n : Int) + 1 := by omega
            have n2 : (n : Int) + 1 ≤ cap := by omega
            have n3 : (0 : Int) < (n : Int) + 1 := by omega
            clear hr t1 t2 hP1 hO1 hO2 hcl few
            rw [hlen, hn]
            clear hlen
            go_wp2_with fail
            clear m1 n1 n3
            all_goals go_meet
            all_goals first
              | (have q : cap = 1 := by assumption
                 exact ⟨l, some ⟨g, o, none⟩, 0, by rw [hn], he q, hP2, T2⟩)
              | exact ⟨l, some ⟨g, o + 1, none⟩, cap - 1, by rw [hn], hd, hP2, T2⟩
        · have hs := psend_any hP1 y0
          go_wp2_with fail
          with_reducible refine hs.mono ?_
          rintro e w2 ⟨rfl, hP2, t2⟩
          have T2 := t1.transNew t2 (fun i hi e => by omega)
          have hO2 := hO1.touch t2 (fun i hi _ e => by omega)
          clear hs t1 t2 hP1 hO1
          by_cases hl : l.length < 4
          · rw [if_pos hl] at hP2
            have l1 : (l.length : Int) < 4 := by omega
            have c2 := cz.out w2 T2
            have d1 : decide (l.length < 4) = true := by simp [hl]
            rw [d1]
            have hO3 := (hO2.touch ((Touch.refl Nil w2).alloc (.cells #[.int .u64 y0] 22)) (fun i hi _ e => e))
            obtain ⟨g, o, cap', wN, hrun, hN, tN⟩ := hO3.append (by have := hP2.row.lt; simp; omega) (by omega) y0 w2.heap.size (by
              have hb := heap_alloc_new w2 (.cells #[.int .u64 y0] 22)
              unfold World.cell?
              rw [hb]; rfl)
            have tM : Touch (B + 2 ≤ ·) w2 wN := ((Touch.refl _ w2).alloc (.cells #[.int .u64 y0] 22)).trans tN
            have hP3 := hP2.touch tM (by omega) (by omega)
            have T3 := T2.transNew tM (fun i hi e => by omega)
            clear hO2 hO3 hP2 T2 tN tM
            go_upto_region 12 with fail
            go_wp2_with (at_builtin; refine Lib.wpList_append_run_sl _ rfl _ _ 27 rfl _ _ rfl rfl hrun ?_)
            go_meet
            exact ⟨l ++ [y0], some ⟨g, o, none⟩, cap', by simp, hN, hP3, T3⟩
          · rw [if_neg hl] at hP2
            have d1 : decide (l.length < 4) = false := by simp [hl]
            have d2 : decide ((l.length : Int) < 4) = false := by simp; omega
            rw [d1]
            go_wp2_with fail
            go_meet
            exact ⟨l, a, cap, rfl, hO2, hP2, T2⟩
      case rest =>
      obtain ⟨l', a', cap', rfl, hO, hP, tk⟩ := hcut
      have hO1 := hO.out
      have hP1 := hP.out
      have t1 := tk.out
      clear hO hP tk hcl few g1
      have few := hP1.few
      obtain ⟨n, hn⟩ : ∃ n, l'.length = n := ⟨_, rfl⟩
      rw [hn] at few ⊢
      have hl := plen_any hP1
      rw [hn] at hl
      have hw := pwords_any hP1
      rw [hn] at hw
      go_wp2_with fail
      with_reducible refine hl.mono ?_
      rintro e wq ⟨rfl, rfl⟩
      clear hl
      go_wp2_with fail
      with_reducible refine hw.mono ?_
      rintro e w2 ⟨⟨v, rfl, hV⟩, hP2, t2⟩
      have T2 := t1.transNew t2 (fun i hi e => by omega)
      have hO2 := hO1.touch t2 (fun i hi _ e => by omega)
      obtain ⟨av, cv, rfl, _, _, _⟩ := own_shape hV
      have hs := usame_any (own_wds hV hn) hO2.wds n hn (by omega) cv cap'
      clear hw hV hP1 t1 t2 hO1
      go_wp2_with fail
      with_reducible refine hs.mono ?_
      rintro e w3 ⟨rfl, t3⟩
      have T3 := T2.trans t3
      have hO3 := hO2.touch t3 (fun i hi _ e => e)
      have hP3 := hP2.touch t3 (by simp [Nil]) (by simp [Nil])
      have hw := pwords_any hP3
      rw [hn] at hw
      clear hs hP2 hO2 t3 T2
      go_wp2_with fail
      with_reducible refine hw.mono ?_
      rintro e w4 ⟨⟨v, rfl, hV⟩, hP4, t4⟩
      have T4 := T3.transNew t4 (fun i hi e => by omega)
      have hO4 := hO3.touch t4 (fun i hi _ e => by omega)
      obtain ⟨av, cv, rfl, _, _, _⟩ := own_shape hV
      have hs := usame_any (own_wds hV hn) hO4.wds n hn (by omega) cv cap'
      clear hw hV hP3 T3 t4 hO3
      go_wp2_with fail
      with_reducible refine hs.mono ?_
      rintro e w5 ⟨rfl, t5⟩
      have T5 := T4.trans t5
      have hO5 := hO4.touch t5 (fun i hi _ e => e)
      have hP5 := hP4.touch t5 (by simp [Nil]) (by simp [Nil])
      clear hs hP4 hO4 t5 T4
      go_wp2_with fail
      go_roundg (60 - (k + 1))
      case measure => omega
      case rel => exact ⟨k + 1, l', a', cap', by omega, by rw [hn], by go_num, hO5, hP5, T5⟩
    · have hq : (¬ k < len0 ∧ decide ((k : Int) < len0) = false) ∨ (k < len0 ∧ (k : Int) < len0 ∧ decide ((k : Int) < 60) = false) := by
        by_cases hl : k < len0
        · exact Or.inr ⟨hl, by omega, by simp; omega⟩
        · exact Or.inl ⟨hl, by simp; omega⟩
      clear p0 hgo
      rcases hq with ⟨q0, q1⟩ | ⟨q0, q1, q2⟩ <;>
      · go_wp2_with fail
        with_reducible refine (wakes13 _).mono ?_
        rintro e w6 ⟨rfl, t6⟩
        have T6 := t1.trans t6
        go_wp2_with fail
        go_ret
        exact ⟨rfl, T6⟩
end Go.Proofs.Ytjaeapegcjhgfaa

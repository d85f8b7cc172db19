/-
  The walk of SwapSums.
-/
import Derived.Test.YtaofkedcdeocjabSwapD
import Derived.Test.YtaofkedcdeocjabKeep
import Derived.Test.YtaofkedcdeocjabMapU
import Derived.Deep.RegionHeld3
namespace Go.Proofs.Ytaofkedcdeocjab
open Go.ChangeShapes Go.WideShapes Go.ChangeAt Go.RowKit Go.Maps

/-- What is kept of a slot: its third word, where it is had. -/
def QS.hd (q : QS) (k : Nat) : Int := if q.U k = true then q.W k 2 else 0
/-- The map tells what is out. -/
structure SuI (q : QS) (s : MS) (D : DataW Unit) : Prop where
  n : s.n = 3
  at' : ∀ k : Nat, 1 ≤ k → k < 8 → D.atKey (.int .i64 k) (.lit (.int .u64 0)) = .lit (.int .u64 (q.hd k))
  hs : ∀ k : Nat, 1 ≤ k → k < 8 → Maps.has D (.int .i64 k) = q.U k
  sz : Maps.size D + q.left = 7
  pos : ∀ k : Nat, q.U k = true → 0 < q.W k 2 ∧ q.W k 2 ≤ 50
theorem SuI.start : SuI QS.fresh (MS.fresh 3) (.map []) := ⟨rfl, fun _ _ _ => rfl, fun _ _ _ => rfl, rfl, fun k h => by cases h⟩
theorem SuI.hd0 {q : QS} {s : MS} {D : DataW Unit} (h : SuI q s D) (k : Nat) : (q.hd k != 0) = q.U k := by
  unfold QS.hd
  cases e : q.U k
  · rfl
  · have := (h.pos k e).1
    simp; omega
theorem SuI.mem {q : QS} {s t : MS} {D : DataW Unit} (h : SuI q s D) (hn : t.n = 3) : SuI q t D := ⟨hn, h.at', h.hs, h.sz, h.pos⟩
theorem SuI.out {q : QS} {s t : MS} {D : DataW Unit} (h : SuI q s D) (tD : Tidy D) (hn : t.n = 3) {f : Nat} (hF : q.Free f) {g : Nat → Int} {y : Int} (hg : g 2 = y) (y0 : 0 < y) (y1 : y ≤ 50) :
    SuI (q.lay f true g) t (D.put (.int .i64 f) (.lit (.int .u64 y))) := by
  refine ⟨hn, fun k k1 k2 => ?_, fun k k1 k2 => ?_, ?_, fun k hk => ?_⟩
  · unfold QS.hd
    rw [QS.lay_U, QS.lay_W]
    by_cases e : k = f
    · subst e; rw [if_pos rfl, if_pos rfl, if_pos rfl, hg, atKey_put_same tD.isMap (isKeyI _)]
    · rw [if_neg e, if_neg e, atKey_put_other (keyI_ne (by omega))]; exact h.at' k k1 k2
  · rw [QS.lay_U]
    by_cases e : k = f
    · subst e; rw [if_pos rfl, has_put_same tD.isMap (isKeyI _)]
    · rw [if_neg e, has_put_other (keyI_ne (by omega))]; exact h.hs k k1 k2
  · have hl := q.left_lay f true g hF.lo hF.hi
    rw [size_put tD, h.hs f hF.lo hF.hi, hF.free]
    rw [hF.free] at hl
    have := h.sz
    simp at hl ⊢
    omega
  · rw [QS.lay_U] at hk
    rw [QS.lay_W]
    by_cases e : k = f
    · rw [if_pos e, hg]; exact ⟨y0, y1⟩
    · rw [if_neg e] at hk ⊢; exact h.pos k hk
theorem SuI.del {q : QS} {s t : MS} {D : DataW Unit} (h : SuI q s D) (tD : Tidy D) (hn : t.n = 3) {f : Nat} (h1 : 1 ≤ f) (h2 : f < 8) (hU : q.U f = true) :
    SuI (q.lay f false (fun _ => 0)) t (D.del (.int .i64 f)) := by
  refine ⟨hn, fun k k1 k2 => ?_, fun k k1 k2 => ?_, ?_, fun k hk => ?_⟩
  · unfold QS.hd
    rw [QS.lay_U, QS.lay_W]
    by_cases e : k = f
    · subst e; rw [if_pos rfl, atKey_del_same]; rfl
    · rw [if_neg e, if_neg e, atKey_del_other (keyI_ne (by omega))]; exact h.at' k k1 k2
  · rw [QS.lay_U]
    by_cases e : k = f
    · subst e; rw [if_pos rfl, has_del_same]
    · rw [if_neg e, has_del_other (keyI_ne (by omega))]; exact h.hs k k1 k2
  · have hl := q.left_lay f false (fun _ => 0) h1 h2
    have := size_del (k := .int .i64 (f : Int)) tD
    rw [h.hs f h1 h2, hU] at this
    rw [hU] at hl
    have := h.sz
    simp at hl this
    simp at *
    omega
  · rw [QS.lay_U] at hk
    rw [QS.lay_W]
    by_cases e : k = f
    · rw [if_pos e] at hk; cases hk
    · rw [if_neg e] at hk ⊢; exact h.pos k hk
/-- A slot that is free already, dropped from the map. -/
theorem SuI.delNo {q : QS} {s t : MS} {D : DataW Unit} (h : SuI q s D) (tD : Tidy D) (hn : t.n = 3) {f : Nat} (h1 : 1 ≤ f) (h2 : f < 8) (hU : q.U f = false) : SuI q t (D.del (.int .i64 f)) := by
  refine ⟨hn, fun k k1 k2 => ?_, fun k k1 k2 => ?_, ?_, h.pos⟩
  · by_cases e : k = f
    · subst e; rw [atKey_del_same]; unfold QS.hd; rw [hU]; rfl
    · rw [atKey_del_other (keyI_ne (by omega))]; exact h.at' k k1 k2
  · by_cases e : k = f
    · subst e; rw [has_del_same, hU]
    · rw [has_del_other (keyI_ne (by omega))]; exact h.hs k k1 k2
  · have := size_del (k := .int .i64 (f : Int)) tD
    rw [h.hs f h1 h2, hU] at this
    have := h.sz
    simp at *
    omega

/-- All that the loop keeps. -/
structure SuC (w : World) (P k : Nat) (wr : World) (q : QS) (s : MS) (D : DataW Unit) : Prop where
  i : SuI q s D
  q : QAt wr P q
  m : MemAt wr (w.heap.size + 1) w.heap.size s
  o : wr.ownsMap Try.prog 3 (plainElem Try.prog 30) (P + 1) k D
  t : Touch Nil w wr

theorem SuC.nil {w wr wx : World} {P k : Nat} {q : QS} {s : MS} {D : DataW Unit} (h : SuC w P k wr q s D) (t : Touch Nil wr wx) : SuC w P k wx q s D :=
  ⟨h.i, h.q.touch t id, h.m.touch t id id, ownsMap_touch h.o t id, h.t.trans t⟩

set_option maxRecDepth 20000 in
set_option maxHeartbeats 4000000 in
theorem swapSums_walk (a0 : Option Addr) (len0 cap0 : Nat) (z0 : List Int) (w : World) (r0 : Row .i64 w a0 len0 cap0 z0) :
    Calls Try.prog 3 #[.slice a0 len0 cap0] w fun e w' => e = .returned (.bool true) ∧ Touch Nil w w' := by
  obtain ⟨hm0, p0⟩ := r0.plain
  unfold maxLen at hm0
  clear r0
  have hmm := @run_makeMap Try.prog
  go_enter Try.func3, Try.ntmps3
  have hN := new_any 3 w
  rw [show MS.many 3 = 3 from rfl] at hN
  go_wp2_with fail
  with_reducible refine hN.mono ?_
  rintro e w1 ⟨rfl, hM, t1, s1⟩
  clear hN
  go_wp2_with fail
  with_reducible refine (snew_any w1).mono ?_
  rintro e w2 ⟨rfl, hQ, t2, s2⟩
  have hM2 := hM.touch t2 (fun h => h) (fun h => h)
  have T2 := t1.trans t2
  have hP2 : w.heap.size + 2 ≤ w1.heap.size := by omega
  clear t1 t2 hM s1
  generalize w1.heap.size = P at *
  go_wp2_with fail
  have hC0 : SuC w P 0 (w2.alloc (.map #[] 0)) QS.fresh (MS.fresh 3) (.map []) := by
    refine ⟨SuI.start, hQ.touch ((Touch.refl Nil w2).alloc _) id, hM2.touch ((Touch.refl Nil w2).alloc _) id id, ?_, T2.alloc _⟩
    have := World.ownsMap_made (H := Unit) w2 Try.prog 3 (plainElem Try.prog 30)
    rwa [s2] at this
  clear hQ hM2 T2 s2 hmm
  go_loopg [6] 50 (fun g i wr => ∃ (k : Nat) (q : QS) (s : MS) (D : DataW Unit), g + k = 50 ∧ i = .int .i64 k ∧ SuC w P k wr q s D)
  case atStart => exact ⟨0, _, _, _, by omega, rfl, hC0⟩
  case round =>
    clear hC0
    obtain ⟨k, q, s, D, hgk, rfl, hC⟩ := hrel
    by_cases hgo : k < len0 ∧ k < 50
    · obtain ⟨hg1, hg2⟩ := hgo
      rcases p0 with p0 | ⟨b0, o0, rfl, hb0, hc0⟩
      · omega
      have c0 := Plain.cell hc0 hb0 (hC.t.below (Nat.le_refl _) (fun _ e => e.elim)) k (by omega)
      have f0 := bounds_i64 (hc0 k (by omega)).2
      generalize z0.getD k 0 = y0 at c0 f0
      have k1 : (k : Int) < len0 := by omega
      have k2 : (k : Int) < 50 := by omega
      have q4 : IntKind.i64.wrap (y0.tdiv 4) = y0.tdiv 4 := by rw [IntKind.wrap_i64]; have := tdiv_two y0 4 (by omega); omega
      have q12 : IntKind.i64.wrap (y0.tdiv 12) = y0.tdiv 12 := by rw [IntKind.wrap_i64]; have := tdiv_two y0 12 (by omega); omega
      have v1 : IntKind.i64.wrap (1 + y0.tdiv 12 % 7) = 1 + y0.tdiv 12 % 7 := by rw [IntKind.wrap_i64]; omega
      go_upto_region 9 with fail
      go_quiet ((go_at_call 6; exact Calls.quiet_of_same (within_q' _ _ _ (by omega) (by omega))))
      go_wp2_with fail
      have hC1 := hC.nil ((Touch.refl Nil wr).drews nq)
      clear hC q4 q12 v1
      generalize wr.drewN nq = W at *
      obtain ⟨F, hF⟩ : ∃ F : Nat, y0.tdiv 4 % 3 = F := ⟨(y0.tdiv 4 % 3).toNat, by omega⟩
      obtain ⟨J, hJ⟩ : ∃ J : Nat, 1 + y0.tdiv 12 % 7 = J := ⟨(1 + y0.tdiv 12 % 7).toNat, by omega⟩
      have hF3 : F < 3 := by omega
      have hJ1 : 1 ≤ J := by omega
      have hJ8 : J < 8 := by omega
      rw [hF, hJ]
      clear hF hJ
      with_reducible refine (within_any y0 4 W (by decide) (by decide)).mono ?_
      rintro e wq ⟨rfl, rfl⟩
      have v0 := Int.emod_nonneg y0 (b := 4) (by omega)
      have v4 := Int.emod_lt_of_pos y0 (b := 4) (by omega)
      generalize y0 % 4 = v at *
      clear c0 f0
      go_upto_block 2 with fail
      have hnn : P ≠ w.heap.size + 1 ∧ P ≠ w.heap.size := by omega
      go_cut [52] (fun _ wx => ∃ (q : QS) (s : MS) (D : DataW Unit), SuC w P (k + 1) wx q s D)
      case first =>
        obtain ⟨hI, hQ, hM, hO, hT⟩ := hC1
        have tD := hO.tidy lawI
        have hsz := hI.sz
        have hl7 := q.left_le
        have hlen := fun wx (h : wx.ownsMap Try.prog 3 (plainElem Try.prog 30) (P + 1) k D) => lensU (w := wx) h
        have hU8 : IntKind.u64.wrap ((k : Int) + 1) = (k : Int) + 1 := by rw [IntKind.wrap_u64]; omega
        have hU9 : IntKind.i64.wrap ((k : Int) + 1) = (k : Int) + 1 := by rw [IntKind.wrap_i64]; omega
        have hat := hI.at' J hJ1 hJ8
        have hnz := hI.hd0 J
        have hiso := q.isOut_at J hJ1 hJ8
        rcases (by omega : (v = 0 ∨ v = 1) ∨ v = 2 ∨ v = 3) with hv | hv | hv
        · have hW := write_any hM (8 * (F : Int) + 2) ((k : Int) + 1) (by omega)
          have hWn : (s.write (8 * (F : Int) + 2) ((k : Int) + 1)).n = 3 := by rw [MS.write_n]; exact hI.n
          have hg : (s.write (8 * (F : Int) + 2) ((k : Int) + 1)).frame (F : Int) 2 = (k : Int) + 1 := by
            rw [MS.frame_write _ _ _ _ _ ((s.hasW_iff _).2 (by have := hI.n; omega)), if_pos (by omega)]
          generalize s.write (8 * (F : Int) + 2) ((k : Int) + 1) = s' at *
          have hF' : s'.hasF (F : Int) = true := (s'.hasF_iff _).2 (by omega)
          clear hat hnz hiso
          rcases hv with hv | hv
          all_goals
            subst hv
            go_wp2_with fail
            with_reducible refine hW.mono ?_
            rintro e w4 ⟨rfl, hM4, t4⟩
            have hQ4 := hQ.touch t4 (fun e => hnn.2 e)
            have hO4 := ownsMap_touch hO t4 (fun e => by omega)
            have T4 := hT.transNew t4 (fun i hi e => by omega)
            clear hQ hM hT t4 hW hO
            rcases q.free_or with ⟨f, hFr⟩ | hFu
            · have hS := hI.out tD hWn hFr hg (by omega) (by omega)
              have hat := hI.at' f hFr.lo hFr.hi
              have hz : q.hd f = 0 := by unfold QS.hd; rw [hFr.free]; rfl
              rw [hz] at hat
              have hlt : (Maps.size D : Int) < 7 := by have := hFr.left; omega
              have f8 := hFr.hi
              go_wp2_with fail
              with_reducible refine (sout_yes hQ4 hM4 hFr (F : Int) hF').mono ?_
              rintro e w5 ⟨rfl, hQ5, t5⟩
              have hM5 := hM4.touch t5 (fun e => hnn.1 e.symm) (fun e => hnn.2 e.symm)
              have hO5 := ownsMap_touch hO4 t5 (fun e => by omega)
              have T5 := T4.transNew t5 (fun i hi e => by omega)
              have hl := hlen _ hO5
              have hk := lookU hO5 f (by omega) (by omega) hat
              clear hQ4 hM4 hO4 T4 t5 hlen
              go_wp2_with (first
                | (at_mapUpdate; refine wpList_mapUpdate_own _ rfl _ _ _ 27 rfl 3 30 lawI Try.underlying27 _ (P + 1) k _ rfl hO5 (by unfold maxLen; omega) _ _ _ rfl rfl (key_I f (by omega) (by omega)) _ [] (plainElem_int Try.underlying30 (WalkArith.wf_u64 (by omega))) ?_; intro w8 hO8 hG8)
                | go_in)
              go_meet
              have t8 := Touch.ofGrown hG8
              exact ⟨_, _, _, hS, hQ5.touch t8 (by show ¬ _ = _; omega), hM5.touch t8 (by show ¬ _ = _; omega) (by show ¬ _ = _; omega), hO8, T5.transNew t8 (fun i hi e => by omega)⟩
            · have h7 : Maps.size D = 7 := by have := hFu.left; omega
              go_wp2_with fail
              with_reducible refine (sout_full hQ4 hFu (F : Int)).mono ?_
              rintro e wq ⟨rfl, rfl⟩
              have hl := hlen _ hO4
              rw [h7] at hl
              go_wp2_with fail
              go_meet
              exact ⟨q, s', D, hI.mem hWn, hQ4, hM4, hO4.mono (by omega), T4⟩
        · subst hv
          have hlk : ∀ wx, wx.ownsMap Try.prog 3 (plainElem Try.prog 30) (P + 1) k D → (Instr.lookup 27 (.map (some (P + 1))) (.int .i64 J) false).run Try.prog wx = .ok (.int .u64 (q.hd J)) wx := fun wx h => lookU h J (by omega) (by omega) hat
          have hl0 := hlk _ hO
          have hl0d := hlk _ hO.drew
          have hDr := fun wx (h : QAt wx P q) => sdrop_any h (J : Int)
          clear hlen hat
          go_upto_region 26 with fail
          cases hU : q.U J
          · rw [hiso, hU] at hDr
            simp only [Bool.false_eq_true, if_false] at hDr
            rw [hU] at hnz
            have hSn := hI.delNo tD hI.n hJ1 hJ8 hU
            go_region_held3 (fun wx => (Instr.lookup 27 (.map (some (P + 1))) (.int .i64 J) false).run Try.prog wx = .ok (.int .u64 (q.hd J)) wx) (first | exact hl0 | exact hl0d | exact hl5)
              (first
                | (go_at_call 9; refine (hDr _ hQ.drew).mono ?_; rintro e w5 ⟨hx, hQ5, t5⟩; subst hx; have hO5 := ownsMap_touch hO.drew t5 (by show ¬ _ = _; omega); have hl5 := hlk _ hO5))
            all_goals
              have U5 := ((Touch.refl (· = P) W).drew).trans t5
              have hM5 := hM.touch U5 (fun e => hnn.1 e.symm) (fun e => hnn.2 e.symm)
              have T5 := hT.transNew U5 (fun i hi e => by omega)
              clear hl0 hl0d hl5 hlk hM t5 U5 hO
              go_wp2_with (first
                | (at_delete; refine wpList_delete_own _ rfl _ _ 27 3 rfl 30 lawI Try.underlying27 _ (P + 1) k _ rfl hO5 _ _ rfl (key_I J (by omega) (by omega)) ?_; intro w9 hO9 hG9)
                | go_in)
              go_meet
              have t9 := Touch.ofGrown hG9.grown
              exact ⟨_, _, _, hSn, hQ5.touch t9 (by show ¬ _ = _; omega), hM5.touch t9 (by show ¬ _ = _; omega) (by show ¬ _ = _; omega), hO9.mono (by omega), T5.transNew t9 (fun i hi e => by omega)⟩
          · rw [hiso, hU] at hDr
            simp only [if_true, Int.toNat_natCast] at hDr
            rw [hU] at hnz
            have hSn := hI.del tD hI.n hJ1 hJ8 hU
            go_region_held3 (fun wx => (Instr.lookup 27 (.map (some (P + 1))) (.int .i64 J) false).run Try.prog wx = .ok (.int .u64 (q.hd J)) wx) (first | exact hl0 | exact hl0d | exact hl5)
              (first
                | (go_at_call 9; refine (hDr _ hQ.drew).mono ?_; rintro e w5 ⟨hx, hQ5, t5⟩; subst hx; have hO5 := ownsMap_touch hO.drew t5 (by show ¬ _ = _; omega); have hl5 := hlk _ hO5))
            all_goals
              have U5 := ((Touch.refl (· = P) W).drew).trans t5
              have hM5 := hM.touch U5 (fun e => hnn.1 e.symm) (fun e => hnn.2 e.symm)
              have T5 := hT.transNew U5 (fun i hi e => by omega)
              clear hl0 hl0d hl5 hlk hM t5 U5 hO
              go_wp2_with (first
                | (at_delete; refine wpList_delete_own _ rfl _ _ 27 3 rfl 30 lawI Try.underlying27 _ (P + 1) k _ rfl hO5 _ _ rfl (key_I J (by omega) (by omega)) ?_; intro w9 hO9 hG9)
                | go_in)
              go_meet
              have t9 := Touch.ofGrown hG9.grown
              exact ⟨_, _, _, hSn, hQ5.touch t9 (by show ¬ _ = _; omega), hM5.touch t9 (by show ¬ _ = _; omega) (by show ¬ _ = _; omega), hO9.mono (by omega), T5.transNew t9 (fun i hi e => by omega)⟩
        · subst hv
          have hlk : ∀ wx, wx.ownsMap Try.prog 3 (plainElem Try.prog 30) (P + 1) k D → (Instr.lookup 27 (.map (some (P + 1))) (.int .i64 J) false).run Try.prog wx = .ok (.int .u64 (q.hd J)) wx := fun wx h => lookU h J (by omega) (by omega) hat
          have hl0 := hlk _ hO
          have hl0d := hlk _ hO.drew
          have hF0 : s.hasF (F : Int) = true := (s.hasF_iff _).2 (by have := hI.n; omega)
          clear hlen hat
          go_upto_region 11 with fail
          cases hU : q.U J
          · have hIn := fun wx (h : QAt wx P q) (m : MemAt wx (w.heap.size + 1) w.heap.size s) => sin_no h m (J : Int) (F : Int) (by rw [hiso, hU, Bool.false_and])
            rw [hU] at hnz
            have hSn := hI.delNo tD hI.n hJ1 hJ8 hU
            have hMd : MemAt W.drew (w.heap.size + 1) w.heap.size s := hM.touch ((Touch.refl Nil W).drew) id id
            go_region_held3 (fun wx => (Instr.lookup 27 (.map (some (P + 1))) (.int .i64 J) false).run Try.prog wx = .ok (.int .u64 (q.hd J)) wx) (first | exact hl0 | exact hl0d)
              (first
                | (go_at_call 10; refine (hIn _ hQ.drew hMd).mono ?_; rintro e w5 ⟨hx, hx2⟩; subst hx; subst hx2))
            all_goals
              have hR := read_any hMd (8 * (F : Int) + 2) (by omega)
              have hOd := hO.drew
              have hlkD := hlk _ hOd
              clear hl0 hl0d hlk
              go_wp2_with fail
              with_reducible refine hR.mono ?_
              rintro e wq ⟨rfl, rfl⟩
              go_wp2_with (first
                | (at_delete; refine wpList_delete_own _ rfl _ _ 27 3 rfl 30 lawI Try.underlying27 _ (P + 1) k _ rfl hOd _ _ rfl (key_I J (by omega) (by omega)) ?_; intro w9 hO9 hG9)
                | go_in)
              go_meet
              have t9 := Touch.ofGrown hG9.grown
              exact ⟨_, _, _, hSn, hQ.drew.touch t9 (by show ¬ _ = _; omega), hMd.touch t9 (by show ¬ _ = _; omega) (by show ¬ _ = _; omega), hO9.mono (by omega), (hT.trans (Touch.refl Nil W).drew).transNew t9 (fun i hi e => by omega)⟩
          · have hIn := fun wx (h : QAt wx P q) (m : MemAt wx (w.heap.size + 1) w.heap.size s) => sin_yes h m ⟨hnn.1, hnn.2⟩ (J : Int) (F : Int) (by rw [hiso, hU]) hF0
            rw [hU] at hnz
            rw [Int.toNat_natCast] at hIn
            have hfr : (s.lay (F : Int) (q.W J)).rd (8 * (F : Int) + 2) = q.hd J := by
              have := s.frame_lay F F (q.W J) 2 hF0 hF0 (by omega)
              rw [if_pos rfl] at this
              unfold MS.frame at this
              rw [show (8 * (F : Int) + 2) = (F : Int) * 8 + ((2 : Nat) : Int) by omega, this]
              unfold QS.hd; rw [hU]; rfl
            have hSn := hI.del (t := s.lay (F : Int) (q.W J)) tD hI.n hJ1 hJ8 hU
            have hMd : MemAt W.drew (w.heap.size + 1) w.heap.size s := hM.touch ((Touch.refl Nil W).drew) id id
            generalize s.lay (F : Int) (q.W J) = s' at *
            go_region_held3 (fun wx => (Instr.lookup 27 (.map (some (P + 1))) (.int .i64 J) false).run Try.prog wx = .ok (.int .u64 (q.hd J)) wx) (first | exact hl0 | exact hl0d | exact hl5)
              (first
                | (go_at_call 10; refine (hIn _ hQ.drew hMd).mono ?_; rintro e w5 ⟨hx, hQ5, hM5, t5⟩; subst hx; have hO5 := ownsMap_touch hO.drew t5 (by show ¬ (_ ∨ _); omega); have hl5 := hlk _ hO5))
            all_goals
              have hR := read_any hM5 (8 * (F : Int) + 2) (by omega)
              rw [hfr] at hR
              have U5 := ((Touch.refl (fun x => x = P ∨ x = w.heap.size) W).drew).trans t5
              have T5 := hT.transNew U5 (fun i hi e => by omega)
              clear hl0 hl0d hlk t5 U5 hO hM hT
              go_wp2_with fail
              with_reducible refine hR.mono ?_
              rintro e wq ⟨rfl, rfl⟩
              go_wp2_with (first
                | (at_delete; refine wpList_delete_own _ rfl _ _ 27 3 rfl 30 lawI Try.underlying27 _ (P + 1) k _ rfl hO5 _ _ rfl (key_I J (by omega) (by omega)) ?_; intro w9 hO9 hG9)
                | go_in)
              go_meet
              have t9 := Touch.ofGrown hG9.grown
              exact ⟨_, _, _, hSn, hQ5.touch t9 (by show ¬ _ = _; omega), hM5.touch t9 (by show ¬ _ = _; omega) (by show ¬ _ = _; omega), hO9.mono (by omega), T5.transNew t9 (fun i hi e => by omega)⟩
      case rest =>
        clear hC1
        obtain ⟨q, s, D, hI, hQ, hM, hO, hT⟩ := hcut
        have hl := lensU hO
        have hL := sleft_any hQ
        have hsz := hI.sz
        have hl7 := q.left_le
        have hlq : (q.left : Int) = 7 - (Maps.size D : Int) := by omega
        have hws : IntKind.i64.wrap (7 - (Maps.size D : Int)) = 7 - (Maps.size D : Int) := by rw [IntKind.wrap_i64]; omega
        rw [hlq] at hL
        go_wp2_with fail
        with_reducible refine hL.mono ?_
        rintro e wq ⟨rfl, rfl⟩
        go_wp2_with fail
        go_loopg [13] 7 (fun g i wr => ∃ n : Nat, g + n = 8 ∧ 1 ≤ n ∧ i = .int .i64 n ∧ wc = wr)
        case atStart => exact ⟨1, by omega, by omega, rfl, rfl⟩
        case round =>
          obtain ⟨n, hgn, hn1, rfl, rfl⟩ := hrel
          by_cases hn8 : n < 8
          · have n1 : (n : Int) < 8 := by omega
            have hat := hI.at' n hn1 hn8
            have hnz := hI.hd0 n
            have hlk := lookU hO n (by omega) (by omega) hat
            have hwd := sword_any hQ (n : Int) 2
            have e1 := q.wok_at n 2 hn1 hn8 (by omega)
            have e2 := q.wd_at n 2 hn1 hn8 (by omega)
            rw [show ((2 : Nat) : Int) = 2 from rfl] at e1 e2
            rw [e1, e2] at hwd
            clear e1 e2 hat
            go_wp2_with fail
            with_reducible refine hwd.mono ?_
            rintro e wq ⟨rfl, rfl⟩
            have h0 : (if q.U n = true then q.W n 2 else 0) = q.hd n := rfl
            rw [h0]
            cases hU : q.U n
            · rw [hU] at hnz
              go_wp2_with fail
              go_roundg (7 - n)
              case measure => omega
              case rel => exact ⟨n + 1, by omega, by omega, by go_num, rfl⟩
            · rw [hU] at hnz
              go_wp2_with fail
              go_roundg (7 - n)
              case measure => omega
              case rel => exact ⟨n + 1, by omega, by omega, by go_num, rfl⟩
          · have h8 : n = 8 := by omega
            subst h8
            go_wp2_with fail
            go_roundg (49 - k)
            case measure => omega
            case rel => exact ⟨k + 1, q, s, D, by omega, by go_num, hI, hQ, hM, hO, hT⟩
    · by_cases hl : k < len0
      · have k1 : (k : Int) < len0 := by omega
        have k2 : decide ((k : Int) < 50) = false := by simp; omega
        go_wp2_with fail
        with_reducible refine (wakes10 _).mono ?_
        rintro e w9 ⟨rfl, t9⟩
        go_wp2_with fail
        go_ret
        exact ⟨rfl, hC.t.trans t9⟩
      · have k1 : decide ((k : Int) < len0) = false := by simp; omega
        go_wp2_with fail
        with_reducible refine (wakes10 _).mono ?_
        rintro e w9 ⟨rfl, t9⟩
        go_wp2_with fail
        go_ret
        exact ⟨rfl, hC.t.trans t9⟩
end Go.Proofs.Ytaofkedcdeocjab

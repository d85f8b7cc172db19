/-
  The walk of SchedFair.
-/
import Derived.Test.YtlhppmhacdoilaaSchM
import Derived.Deep.RegionHeld3
namespace Go.Proofs.Ytlhppmhacdoilaa
open Go.ChangeShapes Go.WideShapes Go.ChangeAt Go.RowKit Go.Maps

/-- The scheduler and the map of the alive ones. -/
structure FaC (w : World) (n : Nat) (wr : World) (s : Sd) (D : DataW Unit) : Prop where
  h : SdAt wr (w.heap.size + 1) w.heap.size s
  g : s.good = true
  two : s.two = true
  lv : Lives s D
  o : BMap wr (w.heap.size + 2) n D
  t : Touch Nil w wr
/-- While turns are taken: j of them. -/
structure FaT (w : World) (s : Sd) (D : DataW Unit) (P j : Nat) (wr : World) (D2 : DataW Unit) : Prop where
  h : SdAt wr (w.heap.size + 1) w.heap.size (s.turns j)
  o : BMap wr (w.heap.size + 2) 40 D
  o2 : BMap wr P j D2
  f : Found (s.found j) D2
  t : Touch Nil w wr
theorem FaT.start {w wr : World} {k : Nat} {s : Sd} {D : DataW Unit} (h : FaC w k wr s D) (hk : k ≤ 40) : FaT w s D wr.heap.size 0 (wr.alloc (.map #[] 0)) (.map []) :=
  ⟨h.h.nil ((Touch.refl Nil wr).alloc _), (h.o.alloc _).mono hk, World.ownsMap_made (H := Unit) wr Try.prog 3 (plainElem Try.prog 4), Found.nil, h.t.alloc _⟩
/-- .. behind Pick, ahead of its mark. -/
structure FaU (w : World) (s : Sd) (D : DataW Unit) (P j : Nat) (wr : World) (D2 : DataW Unit) : Prop where
  o : BMap wr (w.heap.size + 2) 40 D
  o2 : BMap wr P j D2
  f : Found (s.found j) D2
  t : Touch Nil w wr
theorem FaT.pick {w wr w5 : World} {s : Sd} {D D2 : DataW Unit} {P j : Nat} (h : FaT w s D P j wr D2) (_ : SdAt w5 (w.heap.size + 1) w.heap.size ((s.turns j).picked 0)) (t5 : Touch (SdB (w.heap.size + 1) w.heap.size) wr w5) (hP : w.heap.size + 2 < P) : FaU w s D P j w5 D2 :=
  ⟨ownsMap_touch h.o t5 (by rintro (e | e) <;> omega), ownsMap_touch h.o2 t5 (by rintro (e | e) <;> omega), h.f, h.t.transNew t5 (fun i hi e => sdB_new hi (by omega) (by omega) e)⟩
theorem FaU.put {w w5 w8 : World} {s : Sd} {D D2 D3 : DataW Unit} {P j : Nat} (h : FaU w s D P j w5 D2) (h5 : SdAt w5 (w.heap.size + 1) w.heap.size ((s.turns j).picked 0)) (o : BMap w8 P (j + 1) D3) (g : w5.grownBy w8 (some P)) (f : Found (s.found (j + 1)) D3) (hP : w.heap.size + 2 < P) : FaT w s D P (j + 1) w8 D3 := by
  have T8 := Touch.ofGrown g
  exact ⟨h5.touch T8 (by show ¬ _ = _; omega) (by show ¬ _ = _; omega), ownsMap_touch h.o T8 (by show ¬ _ = _; omega), o, f, h.t.transNew T8 (fun i hi e => by omega)⟩
theorem sdInvK (key : Value) (kl : Lit) (h : keyOf Try.prog 3 key = some kl) : ∃ x, key = Value.int .i64 x := by
  obtain ⟨x, rfl, _⟩ := Maps.keyOf_int_inv Try.underlying3 h
  exact ⟨x, rfl⟩
theorem sdInvV (v : Value) (y : DataW Unit × List MemPlace) (h : plainElem Try.prog 4 v = some y) : ∃ c, v = Value.bool c := by
  obtain ⟨c, rfl, _⟩ := sdElem_inv Try.underlying4 h
  exact ⟨c, rfl⟩
/-- The next entry of a map of bools: its key alone. -/
theorem sdNext (w : World) {ops : Array Oper} {rest : List Oper} {o : Oper} {a : Act} {Q : Exit → Act → World → Prop} (hg : o.guard = none) (it : Operand) (hop : o.op = Op.next it false) (b r n : Nat) (D : DataW Unit) (left : Lit → Bool) (cnt : Nat)
    (hit : a.eval it = .pointer (some ⟨r, 0, none⟩)) (h : w.ranges Try.prog 3 (plainElem Try.prog 4) b r n D left cnt)
    (hDone : (∀ kl, left kl = false) → wpList Try.prog ops Q rest (a.put o.dst (.tuple #[.bool false])) w)
    (hMore : ∀ (x : Int) (v : Value) (w' : World) (cnt' : Nat), left (.int .i64 x) = true → w'.ranges Try.prog 3 (plainElem Try.prog 4) b r n D (fun z => left z && !z.sameKey (.int .i64 x)) cnt' → cnt' < cnt → w.grownBy w' (some r) →
      (Instr.entry (.pointer (some ⟨r, 0, none⟩))).run Try.prog w' = .ok (.tuple #[.int .i64 x, v]) w' → wpList Try.prog ops Q rest (a.put o.dst (.tuple #[.bool true, .int .i64 x, v])) w') :
    wpList Try.prog ops Q (o :: rest) a w :=
  wpList_next_ranges w hg it hop 3 sdLaw (plainElem Try.prog 4) (Value.int .i64) Value.bool sdInvK sdInvV b r n D left cnt hit h (fun _ h => hDone h) (fun x c kl y w' cnt' hkey hlk _ _ hrg hlt hgr _ hen => by
    obtain ⟨x', ex, rfl, _⟩ := Maps.keyOf_int_inv Try.underlying3 hkey
    cases ex
    exact hMore x (.bool c) w' cnt' hlk hrg hlt hgr hen)
set_option maxRecDepth 20000 in
set_option maxHeartbeats 8000000 in
theorem schedFair_walk (a0 : Option Addr) (len0 cap0 : Nat) (z0 : List Int) (w : World) (r0 : Row .i64 w a0 len0 cap0 z0) :
    Calls Try.prog 5 #[.slice a0 len0 cap0] w fun e w' => e = .returned (.bool true) ∧ Touch Nil w w' := by
  obtain ⟨hm0, p0⟩ := r0.plain
  unfold maxLen at hm0
  clear r0
  have hmm := @run_makeMap Try.prog
  go_enter Try.func5, Try.ntmps5
  go_wp2_with fail
  with_reducible refine (sdNew_any 2 w).mono ?_
  rintro e w1 ⟨rfl, h1, t1, s1⟩
  rw [show decide ((2 : Int) ≤ 2) = true from rfl] at h1
  go_wp2_with fail
  have hC0 : FaC w 0 (w1.alloc (.map #[] 0)) (Sd.fresh true) (.map []) := by
    refine ⟨h1.nil ((Touch.refl Nil w1).alloc _), Sd.good_fresh true, rfl, Lives.start _ (fun i hi => ?_), ?_, t1.alloc _⟩
    · match i, hi with
      | 0, _ | 1, _ | 2, _ | 3, _ => rfl
    · have := World.ownsMap_made (H := Unit) w1 Try.prog 3 (plainElem Try.prog 4)
      rwa [s1] at this
  clear h1 t1 s1 hmm
  go_loopg [5] 40 (fun gk i wr => ∃ (k : Nat) (s : Sd) (D : DataW Unit), gk + k = 40 ∧ i = .int .i64 k ∧ FaC w k wr s D)
  case atStart => exact ⟨0, _, _, by omega, rfl, hC0⟩
  case round =>
    clear hC0
    obtain ⟨k, s, D, hgk, rfl, hC⟩ := hrel
    by_cases hgo : k < len0 ∧ k < 40
    · obtain ⟨g1, g2⟩ := hgo
      rcases p0 with p0 | ⟨b0, o0, rfl, hb0, hc0⟩
      · omega
      have c0 := Plain.cell hc0 hb0 (hC.t.below (Nat.le_refl _) (fun _ e => e.elim)) k g1
      have f0 := bounds_i64 (hc0 k g1).2
      generalize z0.getD k 0 = y0 at c0 f0
      have k1 : (k : Int) < len0 := by omega
      have k2 : (k : Int) < 40 := by omega
      go_wp2_with fail
      with_reducible refine (within_any y0 4 _ (by decide) (by decide)).mono ?_
      rintro e wq ⟨rfl, rfl⟩
      obtain ⟨P, hP, hP4⟩ : ∃ P : Nat, y0 % 4 = P ∧ P < 4 := ⟨(y0 % 4).toNat, by omega, by omega⟩
      rw [hP]
      go_wp2_with fail
      with_reducible refine (within_any (y0.tdiv 4) 5 _ (by decide) (by decide)).mono ?_
      rintro e wq ⟨rfl, rfl⟩
      have v0 := Int.emod_nonneg (y0.tdiv 4) (b := 5) (by decide)
      have v5 := Int.emod_lt_of_pos (y0.tdiv 4) (b := 5) (by decide)
      generalize y0.tdiv 4 % 5 = v at *
      go_upto_block 2 with fail
      go_cut [46] (fun _ wx => ∃ (s : Sd) (D : DataW Unit), FaC w (k + 1) wx s D)
      case first =>
        have hd : SdAt wr.drew (w.heap.size + 1) w.heap.size s := hC.h.nil ((Touch.refl Nil wr).drew)
        have hOd : BMap wr.drew (w.heap.size + 2) k D := hC.o.drew
        have hat := hC.lv.at' P hP4
        rcases (by omega : (v = 0 ∨ v = 1) ∨ v = 2 ∨ v = 3 ∨ v = 4) with hv | hv | hv
        · have hW := fun wx (h : SdAt wx (w.heap.size + 1) w.heap.size s) => sdWake_any h (P : Int)
          rw [s.wakes_at P hP4] at hW
          have lv := hC.lv.put (s' := s.wake P) hC.o.isMap P hP4 (fun i hi => s.wake_A P hP4 i hi)
          have gd := Sd.good_wake hC.g (P : Int)
          have tw := (s.wake_two (P : Int)).trans hC.two
          generalize s.wake (P : Int) = s' at *
          rcases hv with hv | hv <;> subst hv
          · go_upto_region 13 with fail
            cases hA : s.A P
            · rw [hA] at hat
              have hl0 := sdLook hC.o P (by omega) (by omega) hat
              have hl0d := sdLook hOd P (by omega) (by omega) hat
              go_region_held3 (fun wx => (Instr.lookup 37 (.map (some (w.heap.size + 2))) (.int .i64 P) false).run Try.prog wx = .ok (.bool false) wx) (first | exact hl0 | exact hl0d | exact hl5)
                (first
                  | (go_at_call 8; refine (hW _ hd).mono ?_; rintro e w5 ⟨hx, h5, t5⟩; subst hx; have hO5 := ownsMap_touch hOd t5 (by rintro (e | e) <;> omega); have hl5 := sdLook hO5 P (by omega) (by omega) hat))
              all_goals
                have T5 := (hC.t.trans ((Touch.refl Nil wr).drew)).transNew t5 (fun i hi e => sdB_new hi (by omega) (by omega) e)
                clear hl0 hl0d hl5 hd hOd t5
                go_wp2_with (first
                  | (at_mapUpdate; refine wpList_mapUpdate_own _ rfl _ _ _ 37 rfl 3 4 sdLaw Try.underlying37 _ (w.heap.size + 2) k _ rfl hO5 (by unfold maxLen; omega) _ _ _ rfl rfl (sdKey P (by omega) (by omega)) _ [] (plainElem_bool Try.underlying4 true) ?_; intro w8 hO8 hG8)
                  | go_in)
                go_meet
                have T8 := Touch.ofGrown hG8
                exact ⟨_, _, h5.touch T8 (by show ¬ _ = _; omega) (by show ¬ _ = _; omega), gd, tw, lv, hO8, T5.transNew T8 (fun i hi e => by omega)⟩
            · rw [hA] at hat
              have hl0 := sdLook hC.o P (by omega) (by omega) hat
              have hl0d := sdLook hOd P (by omega) (by omega) hat
              go_region_held3 (fun wx => (Instr.lookup 37 (.map (some (w.heap.size + 2))) (.int .i64 P) false).run Try.prog wx = .ok (.bool true) wx) (first | exact hl0 | exact hl0d | exact hl5)
                (first
                  | (go_at_call 8; refine (hW _ hd).mono ?_; rintro e w5 ⟨hx, h5, t5⟩; subst hx; have hO5 := ownsMap_touch hOd t5 (by rintro (e | e) <;> omega); have hl5 := sdLook hO5 P (by omega) (by omega) hat))
              all_goals
                have T5 := (hC.t.trans ((Touch.refl Nil wr).drew)).transNew t5 (fun i hi e => sdB_new hi (by omega) (by omega) e)
                clear hl0 hl0d hl5 hd hOd t5
                go_wp2_with (first
                  | (at_mapUpdate; refine wpList_mapUpdate_own _ rfl _ _ _ 37 rfl 3 4 sdLaw Try.underlying37 _ (w.heap.size + 2) k _ rfl hO5 (by unfold maxLen; omega) _ _ _ rfl rfl (sdKey P (by omega) (by omega)) _ [] (plainElem_bool Try.underlying4 true) ?_; intro w8 hO8 hG8)
                  | go_in)
                go_meet
                have T8 := Touch.ofGrown hG8
                exact ⟨_, _, h5.touch T8 (by show ¬ _ = _; omega) (by show ¬ _ = _; omega), gd, tw, lv, hO8, T5.transNew T8 (fun i hi e => by omega)⟩
          · go_upto_region 13 with fail
            cases hA : s.A P
            · rw [hA] at hat
              have hl0 := sdLook hC.o P (by omega) (by omega) hat
              have hl0d := sdLook hOd P (by omega) (by omega) hat
              go_region_held3 (fun wx => (Instr.lookup 37 (.map (some (w.heap.size + 2))) (.int .i64 P) false).run Try.prog wx = .ok (.bool false) wx) (first | exact hl0 | exact hl0d | exact hl5)
                (first
                  | (go_at_call 8; refine (hW _ hd).mono ?_; rintro e w5 ⟨hx, h5, t5⟩; subst hx; have hO5 := ownsMap_touch hOd t5 (by rintro (e | e) <;> omega); have hl5 := sdLook hO5 P (by omega) (by omega) hat))
              all_goals
                have T5 := (hC.t.trans ((Touch.refl Nil wr).drew)).transNew t5 (fun i hi e => sdB_new hi (by omega) (by omega) e)
                clear hl0 hl0d hl5 hd hOd t5
                go_wp2_with (first
                  | (at_mapUpdate; refine wpList_mapUpdate_own _ rfl _ _ _ 37 rfl 3 4 sdLaw Try.underlying37 _ (w.heap.size + 2) k _ rfl hO5 (by unfold maxLen; omega) _ _ _ rfl rfl (sdKey P (by omega) (by omega)) _ [] (plainElem_bool Try.underlying4 true) ?_; intro w8 hO8 hG8)
                  | go_in)
                go_meet
                have T8 := Touch.ofGrown hG8
                exact ⟨_, _, h5.touch T8 (by show ¬ _ = _; omega) (by show ¬ _ = _; omega), gd, tw, lv, hO8, T5.transNew T8 (fun i hi e => by omega)⟩
            · rw [hA] at hat
              have hl0 := sdLook hC.o P (by omega) (by omega) hat
              have hl0d := sdLook hOd P (by omega) (by omega) hat
              go_region_held3 (fun wx => (Instr.lookup 37 (.map (some (w.heap.size + 2))) (.int .i64 P) false).run Try.prog wx = .ok (.bool true) wx) (first | exact hl0 | exact hl0d | exact hl5)
                (first
                  | (go_at_call 8; refine (hW _ hd).mono ?_; rintro e w5 ⟨hx, h5, t5⟩; subst hx; have hO5 := ownsMap_touch hOd t5 (by rintro (e | e) <;> omega); have hl5 := sdLook hO5 P (by omega) (by omega) hat))
              all_goals
                have T5 := (hC.t.trans ((Touch.refl Nil wr).drew)).transNew t5 (fun i hi e => sdB_new hi (by omega) (by omega) e)
                clear hl0 hl0d hl5 hd hOd t5
                go_wp2_with (first
                  | (at_mapUpdate; refine wpList_mapUpdate_own _ rfl _ _ _ 37 rfl 3 4 sdLaw Try.underlying37 _ (w.heap.size + 2) k _ rfl hO5 (by unfold maxLen; omega) _ _ _ rfl rfl (sdKey P (by omega) (by omega)) _ [] (plainElem_bool Try.underlying4 true) ?_; intro w8 hO8 hG8)
                  | go_in)
                go_meet
                have T8 := Touch.ofGrown hG8
                exact ⟨_, _, h5.touch T8 (by show ¬ _ = _; omega) (by show ¬ _ = _; omega), gd, tw, lv, hO8, T5.transNew T8 (fun i hi e => by omega)⟩
        · subst hv
          have hW := fun wx (h : SdAt wx (w.heap.size + 1) w.heap.size s) => sdEnd_any h (P : Int)
          rw [s.lives_at P hP4] at hW
          have lv := hC.lv.del (s' := s.fin P) P (fun i hi => s.fin_A P hP4 i hi)
          have gd := Sd.good_fin hC.g (P : Int)
          have tw := (s.fin_two (P : Int)).trans hC.two
          generalize s.fin (P : Int) = s' at *
          go_upto_region 17 with fail
          cases hA : s.A P
          · rw [hA] at hat
            have hl0 := sdLook hC.o P (by omega) (by omega) hat
            have hl0d := sdLook hOd P (by omega) (by omega) hat
            go_region_held3 (fun wx => (Instr.lookup 37 (.map (some (w.heap.size + 2))) (.int .i64 P) false).run Try.prog wx = .ok (.bool false) wx) (first | exact hl0 | exact hl0d | exact hl5)
              (first
                | (go_at_call 11; refine (hW _ hd).mono ?_; rintro e w5 ⟨hx, h5, t5⟩; subst hx; have hO5 := ownsMap_touch hOd t5 (by rintro (e | e) <;> omega); have hl5 := sdLook hO5 P (by omega) (by omega) hat))
            all_goals
              have T5 := (hC.t.trans ((Touch.refl Nil wr).drew)).transNew t5 (fun i hi e => sdB_new hi (by omega) (by omega) e)
              clear hl0 hl0d hl5 hd hOd t5
              go_wp2_with (first
                | (at_delete; refine wpList_delete_own _ rfl _ _ 37 3 rfl 4 sdLaw Try.underlying37 _ (w.heap.size + 2) k _ rfl hO5 _ _ rfl (sdKey P (by omega) (by omega)) ?_; intro w9 hO9 hG9)
                | go_in)
              go_meet
              have T9 := Touch.ofGrown hG9.grown
              exact ⟨_, _, h5.touch T9 (by show ¬ _ = _; omega) (by show ¬ _ = _; omega), gd, tw, lv, hO9.mono (by omega), T5.transNew T9 (fun i hi e => by omega)⟩
          · rw [hA] at hat
            have hl0 := sdLook hC.o P (by omega) (by omega) hat
            have hl0d := sdLook hOd P (by omega) (by omega) hat
            go_region_held3 (fun wx => (Instr.lookup 37 (.map (some (w.heap.size + 2))) (.int .i64 P) false).run Try.prog wx = .ok (.bool true) wx) (first | exact hl0 | exact hl0d | exact hl5)
              (first
                | (go_at_call 11; refine (hW _ hd).mono ?_; rintro e w5 ⟨hx, h5, t5⟩; subst hx; have hO5 := ownsMap_touch hOd t5 (by rintro (e | e) <;> omega); have hl5 := sdLook hO5 P (by omega) (by omega) hat))
            all_goals
              have T5 := (hC.t.trans ((Touch.refl Nil wr).drew)).transNew t5 (fun i hi e => sdB_new hi (by omega) (by omega) e)
              clear hl0 hl0d hl5 hd hOd t5
              go_wp2_with (first
                | (at_delete; refine wpList_delete_own _ rfl _ _ 37 3 rfl 4 sdLaw Try.underlying37 _ (w.heap.size + 2) k _ rfl hO5 _ _ rfl (sdKey P (by omega) (by omega)) ?_; intro w9 hO9 hG9)
                | go_in)
              go_meet
              have T9 := Touch.ofGrown hG9.grown
              exact ⟨_, _, h5.touch T9 (by show ¬ _ = _; omega) (by show ¬ _ = _; omega), gd, tw, lv, hO9.mono (by omega), T5.transNew T9 (fun i hi e => by omega)⟩
        · rcases hv with hv | hv <;> subst hv
          · clear hd hOd hat
            go_wp2_with fail
            with_reducible refine (within_any (y0.tdiv 20) 2 _ (by decide) (by decide)).mono ?_
            rintro e wq ⟨rfl, rfl⟩
            generalize y0.tdiv 20 % 2 = c at *
            have hW := sdPick_any hC.h c
            have lv := hC.lv.of (s' := s.picked c) (fun i hi => s.picked_A c i)
            have gd := Sd.good_picked hC.g c
            have tw := (s.picked_two c).trans hC.two
            generalize s.picked c = s' at *
            go_wp2_with fail
            with_reducible refine hW.mono ?_
            rintro e w5 ⟨rfl, h5, t5⟩
            have T5 := hC.t.transNew t5 (fun i hi e => sdB_new hi (by omega) (by omega) e)
            have hO5 := ownsMap_touch hC.o t5 (by rintro (e | e) <;> omega)
            go_wp2_with fail
            go_meet
            exact ⟨_, _, h5, gd, tw, lv, hO5.mono (by omega), T5⟩
          · clear hd hOd hat
            go_wp2_with fail
            with_reducible refine (within_any (y0.tdiv 20) 2 _ (by decide) (by decide)).mono ?_
            rintro e wq ⟨rfl, rfl⟩
            generalize y0.tdiv 20 % 2 = c at *
            have hW := sdPick_any hC.h c
            have lv := hC.lv.of (s' := s.picked c) (fun i hi => s.picked_A c i)
            have gd := Sd.good_picked hC.g c
            have tw := (s.picked_two c).trans hC.two
            generalize s.picked c = s' at *
            go_wp2_with fail
            with_reducible refine hW.mono ?_
            rintro e w5 ⟨rfl, h5, t5⟩
            have T5 := hC.t.transNew t5 (fun i hi e => sdB_new hi (by omega) (by omega) e)
            have hO5 := ownsMap_touch hC.o t5 (by rintro (e | e) <;> omega)
            go_wp2_with fail
            go_meet
            exact ⟨_, _, h5, gd, tw, lv, hO5.mono (by omega), T5⟩
      case rest =>
        clear hC c0 f0
        obtain ⟨s, D, hC⟩ := hcut
        obtain ⟨ha, hb⟩ := Sd.on_good hC.g hC.two
        have q0 := sdOn_any hC.h 0
        have q1 := sdOn_any hC.h 1
        go_wp2_with fail
        with_reducible refine q0.mono ?_
        rintro e wq ⟨rfl, rfl⟩
        go_wp2_with fail
        with_reducible refine q1.mono ?_
        rintro e wq ⟨rfl, rfl⟩
        clear q0 q1
        rcases ha with ha | ⟨hne, i, i4, ha, ia⟩
        · rcases hb with hb | ⟨j, j4, hb, jb⟩
          · rw [ha, hb]
            clear ha hb
            go_wp2_with fail
            go_roundg (40 - (k + 1))
            case measure => omega
            case rel => exact ⟨k + 1, s, D, by omega, by go_num, hC⟩
          · have hj := sdLook hC.o j (by omega) (by omega) ((hC.lv.at' j j4).trans (by rw [jb]))
            rw [ha, hb]
            clear ha hb
            go_wp2_with fail
            go_roundg (40 - (k + 1))
            case measure => omega
            case rel => exact ⟨k + 1, s, D, by omega, by go_num, hC⟩
        · have hi := sdLook hC.o i (by omega) (by omega) ((hC.lv.at' i i4).trans (by rw [ia]))
          rcases hb with hb | ⟨j, j4, hb, jb⟩
          · have e1 : ((i : Int) == -1) = false := by simp
            rw [ha, hb]
            clear ha hb hne
            go_wp2_with fail
            go_roundg (40 - (k + 1))
            case measure => omega
            case rel => exact ⟨k + 1, s, D, by omega, by go_num, hC⟩
          · have hj := sdLook hC.o j (by omega) (by omega) ((hC.lv.at' j j4).trans (by rw [jb]))
            have e1 : ((i : Int) == (j : Int)) = false := by rw [ha, hb] at hne; simpa using hne
            rw [ha, hb]
            clear ha hb hne
            go_wp2_with fail
            go_roundg (40 - (k + 1))
            case measure => omega
            case rel => exact ⟨k + 1, s, D, by omega, by go_num, hC⟩
    · have hq : (¬ k < len0 ∧ decide ((k : Int) < len0) = false) ∨ (k < len0 ∧ (k : Int) < len0 ∧ decide ((k : Int) < 40) = false) := by
        by_cases q : k < len0
        · exact Or.inr ⟨q, by omega, by simp; omega⟩
        · exact Or.inl ⟨q, by simp; omega⟩
      have hmm := @run_makeMap Try.prog
      have hk40 : k ≤ 40 := by omega
      clear hgo hgk
      have hC2 : FaT w s D wr.heap.size 0 (wr.alloc (.map #[] 0)) (.map []) := FaT.start hC hk40
      have hP : w.heap.size + 2 < wr.heap.size := hC.o.lt
      have gd := hC.g
      have tw := hC.two
      have lv := hC.lv
      clear hC
      rcases hq with ⟨q1, q2⟩ | ⟨q1, q3, q2⟩
      all_goals
        go_wp2_with fail
        generalize wr.heap.size = P2 at *
        go_loopg [10] 4 (fun gk i wx => ∃ (j : Nat) (D2 : DataW Unit), gk + j = 4 ∧ i = .int .i64 j ∧ FaT w s D P2 j wx D2)
        case atStart => exact ⟨0, _, by omega, rfl, hC2⟩
        case round =>
          clear hC2
          obtain ⟨j, D2, hgj, rfl, hT⟩ := hrel
          by_cases hj : j < 4
          · have j1 : (j : Int) < 4 := by omega
            have hp := sdPick_any hT.h 0
            obtain ⟨hpk, hon⟩ := Sd.pick_good (Sd.turns_good gd j) ((s.turns_two j).trans tw)
            go_wp2_with fail
            with_reducible refine hp.mono ?_
            rintro e w5 ⟨rfl, h5, t5⟩
            have hT5 := hT.pick h5 t5 hP
            have hq := sdOn_any h5 1
            have hcons : (s.turns j).pick 0 :: s.found j = s.found (j + 1) := rfl
            clear hp hT t5 hon
            rcases hpk with hpk | ⟨i, i4, hpk, ia, hne⟩
            · rw [hpk] at hcons ⊢
              have hu := hT5.f.put hT5.o2.isMap (-1)
              rw [hcons] at hu
              clear hpk hcons hq
              have hO5 := hT5.o2
              go_wp2_with (first
                | (at_mapUpdate; refine wpList_mapUpdate_own _ rfl _ _ _ 37 rfl 3 4 sdLaw Try.underlying37 _ P2 j _ rfl hO5 (by unfold maxLen; omega) _ _ _ rfl rfl (sdKey (-1) (by omega) (by omega)) _ [] (plainElem_bool Try.underlying4 true) ?_; intro w8 hO8 hG8)
                | go_in)
              go_roundg (4 - (j + 1))
              case measure => omega
              case rel => exact ⟨j + 1, _, by omega, by go_num, hT5.put h5 hO8 hG8 hu hP⟩
            · rw [hpk] at hcons ⊢
              have hu := hT5.f.put hT5.o2.isMap (i : Int)
              rw [hcons] at hu
              have hi := sdLook hT5.o i (by omega) (by omega) ((lv.at' i i4).trans (by rw [← s.turns_A i j, ia]))
              have hne2 : ((i : Int) == ((s.turns j).picked 0).on 1) = false := by simpa using hne
              clear hpk hcons
              have hO5 := hT5.o2
              generalize ((s.turns j).picked 0).on 1 = c at *
              go_wp2_with fail
              with_reducible refine hq.mono ?_
              rintro e wq ⟨rfl, rfl⟩
              go_wp2_with (first
                | (at_mapUpdate; refine wpList_mapUpdate_own _ rfl _ _ _ 37 rfl 3 4 sdLaw Try.underlying37 _ P2 j _ rfl hO5 (by unfold maxLen; omega) _ _ _ rfl rfl (sdKey i (by omega) (by omega)) _ [] (plainElem_bool Try.underlying4 true) ?_; intro w8 hO8 hG8)
                | go_in)
              go_roundg (4 - (j + 1))
              case measure => omega
              case rel => exact ⟨j + 1, _, by omega, by go_num, hT5.put h5 hO8 hG8 hu hP⟩
          · have h4 : j = 4 := by omega
            have e4 : (j : Int) = 4 := by omega
            rw [e4]
            clear e4
            subst h4
            go_wp2_with (first
              | (at_range; refine wpList_range_own _ rfl _ 37 rfl 3 4 sdLaw Try.underlying37 _ (w.heap.size + 2) 40 _ rfl hT.o ?_; intro w0 hrg0 hg0 hs0)
              | go_in)
            go_frame
            have T0 := Touch.ofGrown' hg0
            have t0 := hT.t.transNew T0 (fun _ _ e => by cases e)
            have hh0 := hT.h.touch T0 (by simp) (by simp)
            have ho20 := ownsMap_touch hT.o2 T0 (by simp)
            have hF := hT.f
            have ht4 := Sd.turns_on gd tw 4
            have hPr : P2 < wr.heap.size := hT.o2.lt
            clear hT T0 hg0 hs0
            generalize wr.heap.size = r at *
            go_loopw [12] (fun _ wy => ∃ (left : Lit → Bool) (cnt : Nat), wy.ranges Try.prog 3 (plainElem Try.prog 4) (w.heap.size + 2) r 40 D left cnt ∧ SdAt wy (w.heap.size + 1) w.heap.size (s.turns 4) ∧ BMap wy P2 4 D2 ∧ Aside (Touch Nil w wy) ∧ Aside (∀ kl, left kl = true → Maps.has D kl = true))
              (fun _ wy => wy.rangeLeft (w.heap.size + 2) r)
            case atStart => exact ⟨_, _, hrg0, hh0, ho20, t0, fun _ h => h⟩
            case round =>
              clear hrg0 hh0 ho20 t0
              obtain ⟨left, cnt, hrg, hh, ho2, tA, hA⟩ := hrel
              have tK := tA.out
              have hL := hA.out
              clear tA hA
              go_wp2_with (first
                | (at_next; refine sdNext _ rfl _ rfl (w.heap.size + 2) r 40 _ _ _ rfl hrg ?_ ?_)
                | go_in)
              · intro _
                go_wp2_with fail
                with_reducible refine (sdWakes_any _).mono ?_
                rintro e w9 ⟨rfl, t9⟩
                go_wp2_with fail
                go_ret
                exact ⟨rfl, tK.trans t9⟩
              · intro x v w1 cnt1 hlx hrg1 hlt hg1 hen
                obtain ⟨i, i4, ei, ia⟩ := lv.ks _ (hL _ hlx)
                obtain rfl : x = (i : Int) := by injection ei
                have T1 := Touch.ofGrown hg1
                have hh1 := hh.touch T1 (by show ¬ _ = _; omega) (by show ¬ _ = _; omega)
                have ho21 := ownsMap_touch ho2 T1 (by show ¬ _ = _; omega)
                have t1 := tK.transNew T1 (fun i hi e => by omega)
                have hq := sdOn_any hh1 1
                rw [ht4] at hq
                have hms : w1.rangeLeft (w.heap.size + 2) r < wr.rangeLeft (w.heap.size + 2) r := by rw [hrg1.left_eq, hrg.left_eq]; exact hlt
                have hL1 : ∀ kl, (left kl && !kl.sameKey (.int .i64 (i : Int))) = true → Maps.has D kl = true := fun kl h => hL kl (by simp at h; exact h.1)
                clear ei hg1 T1 hh ho2 tK hL hrg hlt hlx
                go_wp2_with fail
                with_reducible refine hq.mono ?_
                rintro e wq ⟨rfl, rfl⟩
                cases hc : ((i : Int) != s.on 1)
                · clear hq
                  go_wp2_with fail
                  go_roundw
                  case rel => exact ⟨_, cnt1, hrg1, hh1, ho21, t1, hL1⟩
                  case measure => exact hms
                · have hl := sdLook ho21 i (by omega) (by omega) ((hF i).trans (by rw [Sd.fair gd tw i i4 ia (fun e => by rw [e] at hc; simp at hc)]))
                  clear hq
                  go_wp2_with fail
                  go_roundw
                  case rel => exact ⟨_, cnt1, hrg1, hh1, ho21, t1, hL1⟩
                  case measure => exact hms
end Go.Proofs.Ytlhppmhacdoilaa

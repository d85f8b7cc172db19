/-
  The law SpaceKeeps, walked.
-/
import Derived.Test.YtaofkedcdeocjaaSpZ
import Derived.Test.YtaofkedcdeocjaaSlices
import Derived.Test.YtaofkedcdeocjaaKeep
import Derived.Deep.RegionHeld3
namespace Go.Proofs.Ytaofkedcdeocjaa
open Go.ChangeShapes Go.WideShapes Go.ChangeAt Go.RowKit Go.Maps

/-- All that the loop keeps. -/
structure KpC (w : World) (q p b c M base k : Nat) (wr : World) (y : YS) (Dw Du Dl : DataW Unit) : Prop where
  yy : YAt wr q p b c y
  ii : YInv y
  nn : y.s.n = 64
  ll : 47 ≤ y.s.left + 2 * k
  mm : KMap base y Dw Du Dl
  ow : wr.ownsMap Try.prog 3 (plainElem Try.prog 23) M k Dw
  ou : wr.ownsMap Try.prog 3 (plainElem Try.prog 4) (M + 1) k Du
  ol : wr.ownsMap Try.prog 3 (plainElem Try.prog 4) (M + 2) k Dl
  t : Touch Nil w wr
theorem KpC.nil {w wr wx : World} {q p b c M base k : Nat} {y : YS} {Dw Du Dl : DataW Unit} (h : KpC w q p b c M base k wr y Dw Du Dl) (t : Touch Nil wr wx) : KpC w q p b c M base k wx y Dw Du Dl :=
  ⟨Sys.nil h.yy t, h.ii, h.nn, h.ll, h.mm, ownsMap_touch h.ow t id, ownsMap_touch h.ou t id, ownsMap_touch h.ol t id, h.t.trans t⟩
theorem ownsMap_alloc {t : TypeId} {R : Value → Option (DataW Unit × List MemPlace)} {wr : World} {b n : Nat} {D : DataW Unit} (h : wr.ownsMap Try.prog t R b n D) (o : Obj) : (wr.alloc o).ownsMap Try.prog t R b n D :=
  ownsMap_touch h ((Touch.refl Nil wr).alloc o) id

set_option maxRecDepth 20000 in
set_option maxHeartbeats 4000000 in
theorem spaceKeeps_walk (kpti : Bool) (a1 : Option Addr) (len1 cap1 : Nat) (z1 : List Int) (a2 : Option Addr) (len2 cap2 : Nat) (z2 : List Int) (w : World) (r1 : Row .i64 w a1 len1 cap1 z1) (r2 : Row .u64 w a2 len2 cap2 z2) :
    Calls Try.prog 5 #[.bool kpti, .slice a1 len1 cap1, .slice a2 len2 cap2] w fun e w' => e = .returned (.bool true) ∧ Touch Nil w w' := by
  obtain ⟨hm1, p1⟩ := r1.plain
  obtain ⟨hm2, p2⟩ := r2.plain
  unfold maxLen at hm1 hm2
  clear r1 r2
  have hmm := @run_makeMap Try.prog
  go_enter Try.func5, Try.ntmps5
  go_wp2_with fail
  have hO := one_any 64 (by omega) (by omega) 1 (by decide) kpti false (up64_left kpti) w
  unfold cfV at hO
  rw [show (((64 : Nat) : Int)) = 64 from rfl] at hO
  with_reducible refine hO.mono ?_
  rintro e w1 ⟨q, p, b, c, rfl, hq, hp, hb, hc, h1, T1⟩
  clear hO
  have hy0 := y64_inv kpti
  have hn0 := y64_n kpti
  have hl0 := y64_left kpti
  have hS0 := y64_S kpti
  replace h1 : YAt w1 q p b c (y64 kpti) := h1
  obtain ⟨y, hy⟩ : ∃ y, Hid (y64 kpti = y) := ⟨_, rfl⟩
  rw [hy.out] at h1 hy0 hn0 hl0 hS0
  obtain ⟨base, hbase⟩ : ∃ base, y.S.tabs.length = base := ⟨_, rfl⟩
  have hK0 : KMap base y (.map []) (.map []) (.map []) := KMap.start (fun i => by rw [hS0]) (fun i => by rw [hS0]) hbase
  have hTb := tables_any h1.sp
  rw [hbase] at hTb
  go_wp2_with fail
  with_reducible refine hTb.mono ?_
  rintro e w2 ⟨a3, c3, rfl, _, b2⟩
  have t2 : Touch Nil w1 w2 := Touch.ofBelow b2
  have h2 : YAt w2 q p b c y := Sys.nil h1 t2
  have T2 := T1.trans t2
  clear h1 T1 t2 b2 hTb hS0 hy
  go_upto_block 0 with fail
  obtain ⟨M, hM⟩ : ∃ M, w2.heap.size = M := ⟨_, rfl⟩
  have hl47 : 47 ≤ y.s.left + 2 * 0 := by cases kpti <;> simp at hl0 <;> omega
  have t3 : Touch Nil w2 (((w2.alloc (.map #[] 0)).alloc (.map #[] 0)).alloc (.map #[] 0)) := (((Touch.refl Nil w2).alloc _).alloc _).alloc _
  have hC0 : KpC w q p b c M base 0 (((w2.alloc (.map #[] 0)).alloc (.map #[] 0)).alloc (.map #[] 0)) y (.map []) (.map []) (.map []) := by
    refine ⟨Sys.nil h2 t3, hy0, hn0, hl47, hK0, ?_, ?_, ?_, T2.trans t3⟩
    · have := World.ownsMap_made (H := Unit) w2 Try.prog 3 (plainElem Try.prog 23)
      rw [hM] at this
      exact ownsMap_alloc (ownsMap_alloc this _) _
    · have := World.ownsMap_made (H := Unit) (w2.alloc (.map #[] 0)) Try.prog 3 (plainElem Try.prog 4)
      rw [World.size_alloc, hM] at this
      exact ownsMap_alloc this _
    · have := World.ownsMap_made (H := Unit) ((w2.alloc (.map #[] 0)).alloc (.map #[] 0)) Try.prog 3 (plainElem Try.prog 4)
      rw [World.size_alloc, World.size_alloc, hM] at this
      exact this
  have hqM : q < M ∧ p < M ∧ b < M ∧ c < M := by
    rw [← hM]
    obtain ⟨_, hrow⟩ := h2.me.top
    exact ⟨h2.sp.lt, h2.po.row.lt, World.rowIs.lt hrow, h2.me.row.lt⟩
  rw [hM]
  generalize ((w2.alloc (.map #[] 0)).alloc (.map #[] 0)).alloc (.map #[] 0) = W3 at *
  clear h2 t3 hK0 hl47 hy0 hn0 hl0 T2 hM hmm hbase
  obtain ⟨K, hK⟩ : ∃ K, min (min len1 len2) 15 = K := ⟨_, rfl⟩
  go_cut [14] (fun _ wx => ∃ y Dw Du Dl, KpC w q p b c M base K wx y Dw Du Dl)
  case first =>
    go_wp2_with fail
    go_loopg [14] 15 (fun g i wr => ∃ (k : Nat) (y : YS) (Dw Du Dl : DataW Unit), g + k = 15 ∧ k ≤ len1 ∧ k ≤ len2 ∧ i = .int .i64 k ∧ KpC w q p b c M base k wr y Dw Du Dl)
    case atStart => exact ⟨0, _, _, _, _, by omega, by omega, by omega, rfl, hC0⟩
    case round =>
      clear hC0
      obtain ⟨k, y, Dw, Du, Dl, hgk, hkl1, hkl2, rfl, hC⟩ := hrel
      by_cases hgo : k < len1 ∧ k < len2 ∧ k < 15
      · obtain ⟨hg1, hg2, hg3⟩ := hgo
        rcases p1 with p1 | ⟨b1, o1, rfl, hb1, hc1⟩
        · omega
        rcases p2 with p2 | ⟨b2, o2, rfl, hb2, hc2⟩
        · omega
        have c1 := Plain.cell hc1 hb1 (hC.t.below (Nat.le_refl _) (fun _ e => e.elim)) k (by omega)
        have c2 := Plain.cell hc2 hb2 (hC.t.below (Nat.le_refl _) (fun _ e => e.elim)) k (by omega)
        have f2 := (hc2 k (by omega)).2
        generalize z1.getD k 0 = y1 at c1
        obtain ⟨x, hx⟩ : ∃ x, z2.getD k 0 = x := ⟨_, rfl⟩
        rw [hx] at c2 f2
        have k1 : (k : Int) < len1 := by omega
        have k2 : (k : Int) < len2 := by omega
        have k3 : (k : Int) < 15 := by omega
        have hW := within_any y1 256 wr (by decide) (by decide)
        have P0 := Int.emod_nonneg y1 (b := 256) (by omega)
        have P1 := Int.emod_lt_of_pos y1 (b := 256) (by omega)
        generalize y1 % 256 = pg at hW P0 P1
        have hl2 : 2 ≤ y.s.left := by have := hC.ll; omega
        obtain ⟨hm, hI2, hn2, hlf, _, _, _, _, _⟩ := keep_round hC.nn hC.ii x P0 P1 hl2
        have hK2 := hC.mm.step (hC.ow.tidy lawI) (hC.ou.tidy lawI) (hC.ol.tidy lawI) hC.nn hC.ii x P0 P1 hl2
        have hSt := set_any hC.yy hC.ii.ok pg x
        rw [hm, if_pos rfl] at hSt
        obtain ⟨hC1, hC2, hC3, hC4, hC5, hOw, hOu, hOl, hT⟩ := hC
        generalize y.set pg x = y2 at *
        go_wp2_with fail
        with_reducible refine hW.mono ?_
        rintro e wq ⟨rfl, rfl⟩
        go_wp2_with fail
        with_reducible refine hSt.mono ?_
        rintro e w5 ⟨rfl, h5, t5⟩
        have hOw5 := ownsMap_touch hOw t5 (by show ¬ (_ ∨ _ ∨ _); omega)
        have hOu5 := ownsMap_touch hOu t5 (by show ¬ (_ ∨ _ ∨ _); omega)
        have hOl5 := ownsMap_touch hOl t5 (by show ¬ (_ ∨ _ ∨ _); omega)
        have T5 := hT.transNew t5 (fun i hi e => by omega)
        have HB : ∀ wx, Touch Nil w wx → wx.cell? ⟨b2, o2 + k, none⟩ = some (.int .u64 x) := fun wx tx => by
          have := Plain.cell hc2 hb2 (tx.below (Nat.le_refl _) (fun _ e => e.elim)) k (by omega)
          rw [hx] at this; exact this
        have hC1b := hC1.sp
        clear hOw hOu hOl hT t5 hC1 hW hSt c2
        have TD : Touch Nil w w5.drew := T5.drew
        obtain ⟨v0, st, w6, hE, g6, hall⟩ := own_entry (ownsMap_touch hOw5 ((Touch.refl Nil w5).drew) id) lawI Try.underlying69 zeroU (by unfold maxLen; omega) (key_I pg P0 P1) (plainElem_int (H := Unit) Try.underlying23 f2)
        obtain ⟨w7, hS, hOw7, g7⟩ := hall w6 rfl
        clear hall
        have hE' : (Instr.mapEntry 69 (.map (some M)) (.int .i64 pg)).run Try.prog w5.drew = .ok (.tuple #[v0, .int .i64 (st : Int)]) w6 := hE
        have hS' : (Instr.entryStore 69 (.map (some M)) (.int .i64 (st : Int)) (.int .u64 x)).run Try.prog w6 = .ok () w7 := hS
        clear hE hS
        have t7 := (Touch.ofGrown g6).trans (Touch.ofGrown g7)
        have T6 := TD.transNew (Touch.ofGrown g6) (fun i hi e => by omega)
        have T7 := T6.transNew (Touch.ofGrown g7) (fun i hi e => by omega)
        obtain ⟨w8, hU1, hOu8, g8⟩ := (ownsMap_touch (ownsMap_touch hOu5 ((Touch.refl Nil w5).drew) id) t7 (by omega)).update lawI Try.underlying70 (by unfold maxLen; omega) (key_I (pg / 64) (by omega) (by omega)) (plainElem_bool (H := Unit) Try.underlying4 true)
        have t8 := Touch.ofGrown g8
        have T8 := T7.transNew t8 (fun i hi e => by omega)
        obtain ⟨w9, hU2, hOl9, g9⟩ := (ownsMap_touch (ownsMap_touch (ownsMap_touch hOl5 ((Touch.refl Nil w5).drew) id) t7 (by omega)) t8 (by omega)).update lawI Try.underlying70 (by unfold maxLen; omega) (key_I (pg / 8) (by omega) (by omega)) (plainElem_bool (H := Unit) Try.underlying4 true)
        have t9 := Touch.ofGrown g9
        have T9 := T8.transNew t9 (fun i hi e => by omega)
        have d0 := HB _ TD
        have d6 := HB _ T6
        have d7 := HB _ T7
        have d8 := HB _ T8
        have d9 := HB _ T9
        have q64 : pg.tdiv 64 = pg / 64 := Int.tdiv_eq_ediv_of_nonneg P0
        have q8 : pg.tdiv 8 = pg / 8 := Int.tdiv_eq_ediv_of_nonneg P0
        have e64 : IntKind.i64.wrap (pg / 64) = pg / 64 := by rw [IntKind.wrap_i64]; omega
        have e8 : IntKind.i64.wrap (pg / 8) = pg / 8 := by rw [IntKind.wrap_i64]; omega
        have hYD : YAt w5.drew q p b c y2 := h5.drew
        go_upto_region 13 with fail
        go_cut [75] (fun _ wx => w9 = wx)
        case first =>
          go_region_held3 (fun wx => wx.cell? ⟨b2, o2 + k, none⟩ = some (.int .u64 x)) (first | exact d0 | exact d6 | exact d7 | exact d8 | exact d9) (fail)
          all_goals
            go_wp2
            go_meet
            rfl
        case rest =>
          obtain rfl := hcut
          apply_assumption
          have TM : Touch (fun x => M ≤ x) w5.drew w9 := ((((Touch.ofGrown g6).mono (fun x _ e => (by omega : M ≤ x))).trans ((Touch.ofGrown g7).mono (fun x _ e => (by omega : M ≤ x)))).trans (t8.mono (fun x _ e => (by omega : M ≤ x)))).trans (t9.mono (fun x _ e => (by omega : M ≤ x)))
          have hY9 : YAt w9 q p b c y2 := ⟨hYD.sp.touch TM (by show ¬ _ ≤ _; omega), hYD.po.touch TM (by show ¬ _ ≤ _; omega), hYD.me.touch TM (by show ¬ _ ≤ _; omega) (by show ¬ _ ≤ _; omega)⟩
          have hOw9 := ownsMap_touch (ownsMap_touch hOw7 t8 (by omega)) t9 (by omega)
          have hOu9 := ownsMap_touch hOu8 t9 (by omega)
          have hTb := tables_any hY9.sp
          rw [hK2.sz] at hTb
          have su : Maps.size (Du.put (.int .i64 (pg / 64)) (.lit (.bool true))) ≤ 38 := by have := hK2.sz; have := ta_len y2.S 4; rw [tabs_ta] at *; omega
          have sl : Maps.size (Dl.put (.int .i64 (pg / 8)) (.lit (.bool true))) ≤ 38 := by have := hK2.sz; have := ta_len y2.S 4; rw [tabs_ta] at *; omega
          have sb : base ≤ 38 := by have := hK2.sz; have := ta_len y2.S 4; rw [tabs_ta] at *; omega
          clear hYD TM hOw7 hOu8 hOw5 hOu5 hOl5 g6 g7 g8 g9 t7 t8 t9 T6 T7 T8 TD T5 h5 hE' hS' hU1 hU2 d0 d6 d7 d8 d9 HB
          generalize Dw.put (.int .i64 pg) (.lit (.int .u64 x)) = Dw2 at *
          generalize Du.put (.int .i64 (pg / 64)) (.lit (.bool true)) = Du2 at *
          generalize Dl.put (.int .i64 (pg / 8)) (.lit (.bool true)) = Dl2 at *
          go_wp2_with fail
          with_reducible refine hTb.mono ?_
          rintro e w10 ⟨a10, c10, rfl, _, b10⟩
          have t10 : Touch Nil w9 w10 := Touch.ofBelow b10
          have hY10 : YAt w10 q p b c y2 := Sys.nil hY9 t10
          have hOw10 := ownsMap_touch hOw9 t10 id
          have hOu10 := ownsMap_touch hOu9 t10 id
          have hOl10 := ownsMap_touch hOl9 t10 id
          have T10 := T9.trans t10
          clear hY9 hOw9 hOu9 hOl9 T9 t10 b10 hTb
          have l1 := lensB hOu10
          have l2 := lensB hOl10
          go_wp2_with fail
          go_roundg (15 - (k + 1))
          case measure => omega
          case rel => exact ⟨k + 1, y2, Dw2, Du2, Dl2, by omega, by omega, by omega, by go_num, ⟨hY10, hI2, hn2, by omega, hK2, hOw10, hOu10, hOl10, T10⟩⟩
      · obtain rfl : k = K := by omega
        by_cases ha : k < len1
        · have k1 : (k : Int) < len1 := by omega
          by_cases hb : k < len2
          · have k2 : (k : Int) < len2 := by omega
            have k3 : ¬ (k : Int) < 15 := by omega
            go_wp2_with fail
            go_meet
            exact ⟨y, Dw, Du, Dl, hC⟩
          · have k2 : ¬ (k : Int) < len2 := by omega
            go_wp2_with fail
            go_meet
            exact ⟨y, Dw, Du, Dl, hC⟩
        · have k1 : ¬ (k : Int) < len1 := by omega
          go_wp2_with fail
          go_meet
          exact ⟨y, Dw, Du, Dl, hC⟩
  case rest =>
    clear hC0
    obtain ⟨y, Dw, Du, Dl, hC⟩ := hcut
    go_wp2_with fail
    go_loopg [16] 256 (fun g i wr => ∃ k : Nat, g + k = 256 ∧ i = .int .i64 k ∧ KpC w q p b c M base K wr y Dw Du Dl)
    case atStart => exact ⟨0, by omega, rfl, hC⟩
    case round =>
      clear hC
      obtain ⟨k, hgk, rfl, hC⟩ := hrel
      by_cases hk : k < 256
      · have k1 : (k : Int) < 256 := by omega
        have hG := fun wx (h : YAt wx q p b c y) => get_any h hC.ii.ok (k : Int)
        have hat := hC.mm.w (k : Int) (by omega) (by omega)
        obtain ⟨hu1, _⟩ := hC.mm.u ((k : Int) / 64) (by omega) (by omega)
        obtain ⟨hv1, _⟩ := hC.mm.l ((k : Int) / 8) (by omega) (by omega)
        have hp : y.S.hasP (k : Int) = true := (hasP_iff _ _).2 ⟨by have := hC.ii.kern.1; omega, by omega, by omega⟩
        have hnd := need_of hp
        rw [pk_eq (by omega)] at hnd
        obtain ⟨gk, hgk'⟩ : ∃ gk, getP y.S y.s (k : Int) = gk := ⟨_, rfl⟩
        rw [hgk'] at hat hG
        have hlk : ∀ wx, wx.ownsMap Try.prog 3 (plainElem Try.prog 23) M K Dw → (Instr.lookup 69 (.map (some M)) (.int .i64 k) false).run Try.prog wx = .ok (.int .u64 gk) wx := fun wx h => lookU h k (by omega) (by omega) hat
        have hl0 := hlk _ hC.ow
        have hl0d := hlk _ hC.ow.drew
        have hCd := hC.nil ((Touch.refl Nil wr).drew)
        go_upto_region 19 with fail
        go_cut [97] (fun v wx => v = .bool false ∧ KpC w q p b c M base K wx y Dw Du Dl)
        case first =>
          go_region_held3 (fun wx => (Instr.lookup 69 (.map (some M)) (.int .i64 k) false).run Try.prog wx = .ok (.int .u64 gk) wx) (first | exact hl0 | exact hl0d | exact hl5)
            (first
              | (go_at_call 18; refine (hG _ hCd.yy).mono ?_; rintro e w5 ⟨hx, t5⟩; subst hx; have hC5 := hCd.nil t5; have hl5 := hlk _ hC5.ow))
          all_goals
            go_wp2
            go_meet
            exact ⟨by simp, hC5⟩
        case rest =>
          clear hl0 hl0d hlk hCd hC
          obtain ⟨rfl, hC⟩ := hcut
          have hN := fun wx (h : SpAt wx q b p y.S) => need_one h (k : Int)
          rw [hnd] at hN
          have q64 : (k : Int).tdiv 64 = (k : Int) / 64 := Int.tdiv_eq_ediv_of_nonneg (by omega)
          have q8 : (k : Int).tdiv 8 = (k : Int) / 8 := Int.tdiv_eq_ediv_of_nonneg (by omega)
          have lu := lookB hC.ou ((k : Int) / 64) (by omega) (by omega) hu1
          have lv := lookB hC.ol ((k : Int) / 8) (by omega) (by omega) hv1
          clear hu1 hv1 hnd hat hG hgk'
          have HN : ∀ (u v : Bool) (n : Nat), decide (y.S.up ((k : Int) / 64).toNat ≠ 0) = u → decide (y.S.la ((k : Int) / 8).toNat ≠ 0) = v → ((if y.S.up ((k : Int) / 64).toNat = 0 then 1 else 0) + (if y.S.la ((k : Int) / 8).toNat = 0 then 1 else 0)) = n → n = (if u then 0 else 1) + (if v then 0 else 1) := by
            intro u v n hu hv hn
            subst hu hv hn
            by_cases a : y.S.up ((k : Int) / 64).toNat = 0 <;> by_cases b : y.S.la ((k : Int) / 8).toNat = 0 <;> simp [a, b]
          obtain ⟨n, hn⟩ : ∃ n : Nat, ((if y.S.up ((k : Int) / 64).toNat = 0 then 1 else 0) + (if y.S.la ((k : Int) / 8).toNat = 0 then 1 else 0)) = n := ⟨_, rfl⟩
          rw [hn] at hN
          obtain ⟨u, hu⟩ : ∃ u, decide (y.S.up ((k : Int) / 64).toNat ≠ 0) = u := ⟨_, rfl⟩
          obtain ⟨v, hv⟩ : ∃ v, decide (y.S.la ((k : Int) / 8).toNat ≠ 0) = v := ⟨_, rfl⟩
          have hnn := HN u v n hu hv hn
          rw [hu] at lu
          rw [hv] at lv
          clear HN hu hv hn
          have hN := hN _ hC.yy.sp
          cases u <;> cases v <;> (simp only [if_true, if_false, Bool.false_eq_true, Nat.zero_add, Nat.add_zero] at hnn; subst hnn)
          all_goals
            go_wp2_with fail
            with_reducible refine hN.mono ?_
            rintro e w6 ⟨rfl, t6⟩
            have hC6 := hC.nil t6
            clear hC lu lv hN t6
            go_wp2_with fail
            go_roundg (256 - (k + 1))
            case measure => omega
            case rel => exact ⟨k + 1, by omega, by go_num, hC6⟩
      · have k1 : ¬ (k : Int) < 256 := by omega
        have hsp := hC.yy.sp
        have n0 : y.S.need [] = 0 := rfl
        have hb1 : y.S.hasP (-1) = false := by cases h : y.S.hasP (-1); rfl; have := ((hasP_iff _ _).1 h).2.1; omega
        have hb2 : y.S.hasP 256 = false := by cases h : y.S.hasP 256; rfl; have := ((hasP_iff _ _).1 h).2.2; omega
        have hb3 : y.S.hasP 448 = false := by cases h : y.S.hasP 448; rfl; have := ((hasP_iff _ _).1 h).2.2; omega
        have n3 : y.S.need [-1, 256, 448] = 0 := by
          unfold SS.need
          simp [needS, hb1, hb2, hb3]
        have hN := need_any hsp none 0 0 [] (by omega) (Or.inl rfl) rfl
        rw [n0] at hN
        go_wp2_with fail
        with_reducible refine hN.mono ?_
        rintro e w6 ⟨rfl, t6⟩
        have hC6 := hC.nil t6
        clear hC hsp hN t6
        have tA := (Touch.refl Nil w6).alloc (.cells #[.int .i64 (-1), .int .i64 256, .int .i64 448] 3)
        have hN := need_any (hC6.nil tA).yy.sp (some ⟨w6.heap.size, 0, none⟩) 3 3 [-1, 256, 448] (by omega) (Or.inr ⟨w6.heap.size, 0, rfl, by simp, fun i hi => by
          rcases (by omega : i = 0 ∨ i = 1 ∨ i = 2) with rfl | rfl | rfl <;> simp [go_sem]⟩) rfl
        rw [n3] at hN
        go_wp2_with fail
        with_reducible refine hN.mono ?_
        rintro e w7 ⟨rfl, t7⟩
        have hC7 := (hC6.nil tA).nil t7
        go_wp2_with fail
        with_reducible refine (wakes9 _).mono ?_
        rintro e w8 ⟨rfl, t8⟩
        go_wp2_with fail
        go_ret
        exact ⟨rfl, hC7.t.trans t8⟩
end Go.Proofs.Ytaofkedcdeocjaa

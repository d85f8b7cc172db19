/-
  The law SpaceHides, walked.
-/
import Derived.Test.YtfbmjagchjhddabSpX
import Derived.Test.YtfbmjagchjhddabSlices
import Derived.Test.YtfbmjagchjhddabKeep
namespace Go.Proofs.Ytfbmjagchjhddab
open Go.ChangeShapes Go.WideShapes Go.ChangeAt Go.RowKit

theorem set_user (y : YS) (page x : Int) : (y.set page x).S.user = y.S.user := by
  show ((y.up1 (page / 64).toNat).la1 (page / 64).toNat (page / 8 % 8).toNat).S.user = _
  have e1 : (y.up1 (page / 64).toNat).S.user = y.S.user := by unfold YS.up1; split <;> rfl
  rw [← e1]
  unfold YS.la1; split <;> rfl
/-- What one page more does. -/
theorem hid_round {k : Bool} {y : YS} (hn : y.s.n = 64) (h : YInv y) (wi : WInv (MS.up 64 k) k y) {page F : Int} (p0 : 0 ≤ page) (p1 : page < 256) (hF : 0 ≤ F ∧ F < 64) (hl : 2 ≤ y.s.left) :
    y.may page = true ∧ YInv (y.set page (packV true true false F)) ∧ WInv (MS.up 64 k) k (y.set page (packV true true false F)) ∧ (y.set page (packV true true false F)).s.n = 64 ∧ y.s.left ≤ (y.set page (packV true true false F)).s.left + 2 ∧ (y.set page (packV true true false F)).S.kern = y.S.kern ∧ (y.set page (packV true true false F)).S.user = y.S.user ∧
    (∃ pl b, toP (y.set page (packV true true false F)).s y.S.kern page = (⟨pl, b, true, true, false, F⟩, 0)) ∧ (∃ pl b, toP (y.set page (packV true true false F)).s y.S.user page = (⟨pl, b, true, true, false, F⟩, 0)) ∧
    (y.set page (packV true true false F)).S.tabs.length = y.S.tabs.length + y.S.need [page] ∧ (y.set page (packV true true false F)).S.need [page] = 0 ∧ getP (y.set page (packV true true false F)).S (y.set page (packV true true false F)).s page = packV true true false F := by
  have hp : y.S.hasP page = true := (hasP_iff _ _).2 ⟨by have := h.kern.1; omega, p0, p1⟩
  have hle := need_le y.S page
  have hm : y.may page = true := by unfold YS.may; rw [hp]; simp; omega
  obtain ⟨h2, hg, _, hla, _⟩ := h.set hm (packV true true false F)
  have hw2 := WInv.set h wi hm (x := packV true true false F) (by have := packV_bd true true false F hF.1 (by omega); omega)
  obtain ⟨_, hl2, hk, hn2, hlf⟩ := set_facts hm (by omega) (packV true true false F)
  have hT := tabs_set h hm (packV true true false F)
  have hu := set_user y page (packV true true false F)
  generalize y.set page (packV true true false F) = y2 at *
  have hn0 := (h2.need0 page).1 hl2
  have hp2 : y2.S.hasP page = true := (hasP_iff _ _).2 ⟨by have := h2.kern.1; omega, p0, p1⟩
  have hr : y2.s.rd (y2.S.pl page) = packV true true false F := by
    have := hg; unfold getP at this; rw [if_pos ⟨hp2, hn0⟩] at this; exact this
  obtain ⟨t1, t2⟩ := user_to (hn2.trans hn) h2 hw2 p0 p1 hl2 hF hr
  rw [hk] at t1
  rw [hu] at t2
  exact ⟨hm, h2, hw2, hn2.trans hn, by omega, hk, hu, t1, t2, hT, hn0, hg⟩

/-- The kernel's map, from both roots. -/
theorem hid_map {k : Bool} {y : YS} (hn : y.s.n = 64) (h : YInv y) (w : WInv (MS.up 64 k) k y) (f : Nat) (hf : f < 64) :
    (∃ pl b, toP y.s y.S.kern (256 + (f : Int)) = (⟨pl, b, true, false, !k, (f : Int)⟩, 0)) ∧ ∃ x E sn, toP y.s y.S.user (256 + (f : Int)) = (x, E) ∧ (blindP y.s y.S.user (256 + (f : Int))).2.2 = sn ∧ ((E == 0) == k) = false ∧ (sn == k) = false := by
  refine ⟨map_to hn h w f hf, ?_⟩
  cases k with
  | false =>
    obtain ⟨pl, b, e⟩ := map_to hn h w f hf
    rw [w.roots rfl]
    exact ⟨_, _, _, e, blind_seen e, rfl, rfl⟩
  | true =>
    have p0 : pidx (256 + (f : Int)) 0 = 4 := by rw [pidx0 (by omega) (by omega)]; omega
    obtain ⟨s15, sn, _⟩ := h.user
    obtain ⟨x, e1, e2⟩ := toP_none (s := y.s) (r := y.S.user) (page := 256 + (f : Int)) ⟨by omega, by omega⟩ ((y.s.hasF_iff _).2 ⟨by omega, sn⟩) (by rw [p0]; exact w.u4 rfl)
    exact ⟨_, _, _, e1, e2, rfl, rfl⟩

set_option maxRecDepth 20000 in
set_option maxHeartbeats 4000000 in
theorem spaceHides_walk (kpti : Bool) (a1 : Option Addr) (len1 cap1 : Nat) (z1 : List Int) (x : Int) (hx : 0 ≤ x ∧ x < 18446744073709551616) (w : World) (r1 : Row .i64 w a1 len1 cap1 z1) :
    Calls Try.prog 3 #[.bool kpti, .slice a1 len1 cap1, .int .u64 x] w fun e w' => e = .returned (.bool true) ∧ Touch Nil w w' := by
  obtain ⟨hm1, p1⟩ := r1.plain
  unfold maxLen at hm1
  clear r1
  go_enter Try.func3, Try.ntmps3
  go_wp2_with fail
  have hO := one_any 64 (by omega) (by omega) 1 (by decide) kpti true (up64_left kpti) w
  unfold cfV at hO
  rw [show (((64 : Nat) : Int)) = 64 from rfl] at hO
  with_reducible refine hO.mono ?_
  rintro e w1 ⟨q, p, b, c, rfl, hq, hp, hb, hc, h1, T1⟩
  clear hO
  have hy0 := y64_inv kpti
  have hw0 := y64_w kpti
  have hn0 := y64_n kpti
  have hl0 := y64_left kpti
  have hS0 := y64_S kpti
  replace h1 : YAt w1 q p b c (y64 kpti) := h1
  obtain ⟨y, hy⟩ : ∃ y, Hid (y64 kpti = y) := ⟨_, rfl⟩
  rw [hy.out] at h1 hy0 hw0 hn0 hl0 hS0
  have hR := sroots_any h1.sp
  have eK : y.S.kern = 15 := by rw [hS0]
  obtain ⟨U, eU⟩ : ∃ U, y.S.user = U := ⟨_, rfl⟩
  have hU : Hid (kpti = decide (¬ ((15 : Int) = U))) := by show kpti = _; rw [← eU, hS0]; cases kpti <;> decide
  have hEq : ((15 == U) == kpti) = false := by rw [hU.out]; by_cases h : (15 : Int) = U <;> simp [h]
  rw [eK, eU] at hR
  clear hS0 hy
  go_wp2_with fail
  with_reducible refine hR.mono ?_
  rintro e w2 ⟨rfl, t2⟩
  clear hR
  have h2 : YAt w2 q p b c y := Sys.nil h1 t2
  have T2 := T1.trans t2
  clear h1 t2 T1
  have x0 := Int.emod_nonneg x (b := 40) (by omega)
  have x1 := Int.emod_lt_of_pos x (b := 40) (by omega)
  go_wp2_with fail
  obtain ⟨F, eF⟩ : ∃ F, 20 + x % 40 = F := ⟨_, rfl⟩
  have hF : 0 ≤ F ∧ F < 64 := by omega
  rw [eF]
  with_reducible refine (pack_ok true true false F w2 (by omega) (by omega)).mono ?_
  rintro e w3 ⟨rfl, e3⟩
  have t3 : Touch Nil w2 w3 := by rw [e3]; exact (Touch.refl Nil w2).alloc _
  have h3 : YAt w3 q p b c y := Sys.nil h2 t3
  have T3 := T2.trans t3
  clear h2 T2 t3 e3 x0 x1 eF
  have hl0' : 47 ≤ y.s.left := by cases kpti <;> simp at hl0 <;> omega
  clear hl0
  obtain ⟨V, hV⟩ : ∃ V, Hid (packV true true false F = V) := ⟨_, rfl⟩
  rw [hV.out]
  go_upto_block 0 with fail
  go_cut [14] (fun _ wx => ∃ y : YS, YAt wx q p b c y ∧ YInv y ∧ WInv (MS.up 64 kpti) kpti y ∧ y.s.n = 64 ∧ y.S.kern = 15 ∧ y.S.user = U ∧ Touch Nil w wx)
  case first =>
    go_wp2_with fail
    go_loopg [14] 6 (fun g i wr => ∃ (k : Nat) (y : YS), g + k = 6 ∧ i = .int .i64 k ∧ YAt wr q p b c y ∧ YInv y ∧ WInv (MS.up 64 kpti) kpti y ∧ y.s.n = 64 ∧ 47 ≤ y.s.left + 2 * k ∧ y.S.kern = 15 ∧ y.S.user = U ∧ Touch Nil w wr)
    case atStart => exact ⟨0, y, by omega, rfl, h3, hy0, hw0, hn0, by omega, eK, eU, T3⟩
    case round =>
      clear h3 hy0 hw0 hn0 hl0' eK eU T3
      clear y
      obtain ⟨k, y, hgk, rfl, h4, hy4, hw4, hn4, hl4, eK, eU, T4⟩ := hrel
      by_cases hg1 : k < len1
      · have k1 : (k : Int) < len1 := by omega
        by_cases hg2 : k < 6
        · have k2 : (k : Int) < 6 := by omega
          rcases p1 with p1 | ⟨b1, o1, rfl, hb1, hc1⟩
          · omega
          have c0 := Plain.cell hc1 hb1 (T4.below (Nat.le_refl _) (fun _ e => e.elim)) k (by omega)
          obtain ⟨y0, hy⟩ : ∃ y, z1.getD k 0 = y := ⟨_, rfl⟩
          rw [hy] at c0
          clear hy
          have hW := within_any y0 256 wr (by decide) (by decide)
          have P0 := Int.emod_nonneg y0 (b := 256) (by omega)
          have P1 := Int.emod_lt_of_pos y0 (b := 256) (by omega)
          generalize y0 % 256 = pg at hW P0 P1
          obtain ⟨hm, hy5, hw5, hn5, hl5, eK5, eU5, ⟨plK, bK, toK⟩, ⟨plU, bU, toU⟩, hTb, hN5, hG5⟩ := hid_round hn4 hy4 hw4 P0 P1 hF (by omega)
          rw [hV.out] at hy5 hw5 hn5 hl5 eK5 eU5 toK toU hTb hN5 hG5
          rw [eK] at toK eK5
          rw [eU] at toU eU5
          have hSt : ∀ wx, YAt wx q p b c y → _ := fun wx hx => set_any hx hy4.ok pg V
          rw [hm] at hSt
          simp only [if_true] at hSt
          generalize y.set pg V = y5 at hy5 hw5 hn5 hl5 eK5 eU5 toK toU hTb hN5 hG5 hSt
          obtain ⟨N, hN⟩ : ∃ N, y.S.need [pg] = N := ⟨_, rfl⟩
          rw [hN] at hTb
          have hNle : N ≤ 2 := by have := need_le y.S pg; omega
          have hNd := fun wx (hx : YAt wx q p b c y) => need_one (w := wx) hx.sp pg
          rw [hN] at hNd
          go_wp2_with fail
          with_reducible refine hW.mono ?_
          rintro e wq ⟨rfl, rfl⟩
          go_wp2_with fail
          with_reducible refine (hNd _ h4).mono ?_
          rintro e w5 ⟨rfl, t5⟩
          have h5 : YAt w5 q p b c y := Sys.nil h4 t5
          have T5 := T4.trans t5
          clear h4 T4 t5 hNd hN
          go_wp2_with fail
          with_reducible refine (tables_any h5.sp).mono ?_
          rintro e w6 ⟨a6, c6, rfl, _, b6⟩
          have t6 : Touch Nil w5 w6 := Touch.ofBelow b6
          have h6 : YAt w6 q p b c y := Sys.nil h5 t6
          have T6 := T5.trans t6
          clear h5 T5 t6 b6
          go_wp2_with fail
          with_reducible refine (hSt _ h6).mono ?_
          rintro e w7 ⟨rfl, h7, t7⟩
          have T7 : Touch Nil w w7 := T6.transNew t7 (fun i hi e => by omega)
          clear h6 T6 t7 hSt
          have hTo := fun wx (hx : YAt wx q p b c y5) => to_any (w := wx) hx.me hw5.word U pg
          rw [toU] at hTo
          unfold stepV at hTo
          dsimp only at hTo
          go_wp2_with fail
          with_reducible refine (hTo _ h7).mono ?_
          rintro e w8 ⟨a8, c8, rfl, _, b8⟩
          have t8 : Touch Nil w7 w8 := Touch.ofBelow b8
          have h8 : YAt w8 q p b c y5 := Sys.nil h7 t8
          have T8 := T7.trans t8
          clear h7 T7 t8 b8 hTo
          have hTo := fun wx (hx : YAt wx q p b c y5) => to_any (w := wx) hx.me hw5.word 15 pg
          rw [toK] at hTo
          unfold stepV at hTo
          dsimp only at hTo
          go_wp2_with fail
          have hA := heap_alloc_new w8 (.cells #[.slice a8 plU.length c8, .int .u64 bU, .bool true, .bool true, .bool false, .int .i64 F] 42)
          have tA := (Touch.refl Nil w8).alloc (.cells #[.slice a8 plU.length c8, .int .u64 bU, .bool true, .bool true, .bool false, .int .i64 F] 42)
          generalize w8.alloc (.cells #[.slice a8 plU.length c8, .int .u64 bU, .bool true, .bool true, .bool false, .int .i64 F] 42) = W8 at *
          have h8' : YAt W8 q p b c y5 := Sys.nil h8 tA
          have T8' := T8.trans tA
          clear h8 T8 tA
          generalize w8.heap.size = A at *
          with_reducible refine (hTo _ h8').mono ?_
          rintro e w9 ⟨a9, c9, rfl, _, b9⟩
          have hA9 := (b9.block A (lt_of_block' hA)).trans hA
          have t9 : Touch Nil W8 w9 := Touch.ofBelow b9
          have h9 : YAt w9 q p b c y5 := Sys.nil h8' t9
          have T9 := T8'.trans t9
          clear h8' T8' t9 b9 hTo hA
          go_upto_region 17 with fail
          have hB := heap_alloc_new w9 (.cells #[.slice a9 plK.length c9, .int .u64 bK, .bool true, .bool true, .bool false, .int .i64 F] 42)
          have tB := (Touch.refl Nil w9).alloc (.cells #[.slice a9 plK.length c9, .int .u64 bK, .bool true, .bool true, .bool false, .int .i64 F] 42)
          generalize w9.alloc (.cells #[.slice a9 plK.length c9, .int .u64 bK, .bool true, .bool true, .bool false, .int .i64 F] 42) = W9 at *
          have hA10 := (tB.block A (lt_of_block' hA9) (fun h => h)).trans hA9
          have h10 : YAt W9 q p b c y5 := Sys.nil h9 tB
          have T10 := T9.trans tB
          clear h9 T9 tB hA9
          generalize w9.heap.size = B at *
          have ca5 : W9.cell? ⟨A, 5, none⟩ = some (.int .i64 F) := by simp [World.cell?, hA10]
          have ca3 : W9.cell? ⟨A, 3, none⟩ = some (.bool true) := by simp [World.cell?, hA10]
          have ca2 : W9.cell? ⟨A, 2, none⟩ = some (.bool true) := by simp [World.cell?, hA10]
          have cb5 : W9.cell? ⟨B, 5, none⟩ = some (.int .i64 F) := by simp [World.cell?, hB]
          have hTt := tables_any h10.sp
          rw [hTb] at hTt
          have hL : y.S.tabs.length ≤ 38 := by have := ta_len y.S 4; rw [tabs_ta]; omega
          generalize y.S.tabs.length = L at *
          go_wp2_with fail
          with_reducible refine hTt.mono ?_
          rintro e w11 ⟨a11, c11, rfl, _, b11⟩
          have t11 : Touch Nil W9 w11 := Touch.ofBelow b11
          have h11 : YAt w11 q p b c y5 := Sys.nil h10 t11
          have T11 := T10.trans t11
          clear h10 T10 t11 b11 hTt ca5 ca3 ca2 cb5
          have hNd := need_one h11.sp pg
          rw [hN5] at hNd
          have L1 : ((L + N : Nat) : Int) = (L : Int) + (N : Int) := by omega
          go_wp2_with fail
          with_reducible refine hNd.mono ?_
          rintro e w12 ⟨rfl, t12⟩
          have h12 : YAt w12 q p b c y5 := Sys.nil h11 t12
          have T12 := T11.trans t12
          clear h11 T11 t12 hNd
          have hGt := get_any h12 hy5.ok pg
          rw [hG5] at hGt
          go_wp2_with fail
          with_reducible refine hGt.mono ?_
          rintro e w13 ⟨rfl, t13⟩
          have h13 : YAt w13 q p b c y5 := Sys.nil h12 t13
          have T13 := T12.trans t13
          clear h12 T12 t13 hGt
          go_wp2_with fail
          go_roundg (6 - (k + 1))
          case measure => omega
          case rel => exact ⟨k + 1, y5, by omega, by go_num, h13, hy5, hw5, hn5, by omega, eK5, eU5, T13⟩
        · have k2 : ¬ ((k : Int) < 6) := by omega
          go_wp2_with fail
          go_meet
          exact ⟨y, h4, hy4, hw4, hn4, eK, eU, T4⟩
      · have k1 : ¬ ((k : Int) < len1) := by omega
        go_wp2_with fail
        go_meet
        exact ⟨y, h4, hy4, hw4, hn4, eK, eU, T4⟩
  case rest =>
    clear h3 hy0 hw0 hn0 hl0' eK eU T3
    clear y
    obtain ⟨y, h4, hy4, hw4, hn4, eK, eU, T4⟩ := hcut
    go_wp2_with fail
    go_loopg [22] 64 (fun g i wr => ∃ k : Nat, g + k = 64 ∧ i = .int .i64 k ∧ YAt wr q p b c y ∧ Touch Nil w wr)
    case atStart => exact ⟨0, by omega, rfl, h4, T4⟩
    case round =>
      clear h4 T4
      obtain ⟨k, hgk, rfl, h4, T4⟩ := hrel
      by_cases hg : k < 64
      · have k1 : (k : Int) < 64 := by omega
        obtain ⟨⟨plK, bK, toK⟩, xU, E, sn, toU, hsn, hE, hs⟩ := hid_map hn4 hy4 hw4 k hg
        rw [eK] at toK
        rw [eU] at toU hsn
        have hTo := to_any h4.me hw4.word 15 (256 + (k : Int))
        rw [toK] at hTo
        unfold stepV at hTo
        dsimp only at hTo
        go_wp2_with fail
        with_reducible refine hTo.mono ?_
        rintro e w5 ⟨a5, c5, rfl, _, b5⟩
        have t5 : Touch Nil wr w5 := Touch.ofBelow b5
        have h5 : YAt w5 q p b c y := Sys.nil h4 t5
        have T5 := T4.trans t5
        clear h4 T4 t5 b5 hTo
        have hTo := fun wx (hx : YAt wx q p b c y) => to_any (w := wx) hx.me hw4.word U (256 + (k : Int))
        rw [toU] at hTo
        unfold stepV at hTo
        dsimp only at hTo
        have hBl := fun wx (hx : YAt wx q p b c y) => blind_any (w := wx) hx.me hw4.word U (256 + (k : Int))
        rw [hsn] at hBl
        clear toK toU hsn
        go_wp2_with fail
        have tA := (Touch.refl Nil w5).alloc (.cells #[.slice a5 plK.length c5, .int .u64 bK, .bool true, .bool false, .bool (!kpti), .int .i64 k] 42)
        generalize w5.alloc (.cells #[.slice a5 plK.length c5, .int .u64 bK, .bool true, .bool false, .bool (!kpti), .int .i64 k] 42) = W5 at *
        have h6 : YAt W5 q p b c y := Sys.nil h5 tA
        have T6 := T5.trans tA
        clear h5 T5 tA
        generalize w5.heap.size = A at *
        with_reducible refine (hTo _ h6).mono ?_
        rintro e w7 ⟨a7, c7, rfl, _, b7⟩
        have t7 : Touch Nil W5 w7 := Touch.ofBelow b7
        have h7 : YAt w7 q p b c y := Sys.nil h6 t7
        have T7 := T6.trans t7
        clear h6 T6 t7 b7 hTo
        go_wp2_with fail
        with_reducible refine (hBl _ h7).mono ?_
        rintro e w8 ⟨a8, c8, rfl, _, b8⟩
        have t8 : Touch Nil w7 w8 := Touch.ofBelow b8
        have h8 : YAt w8 q p b c y := Sys.nil h7 t8
        have T8 := T7.trans t8
        clear h7 T7 t8 b8 hBl
        go_wp2_with fail
        go_roundg (64 - (k + 1))
        case measure => omega
        case rel => exact ⟨k + 1, by omega, by go_num, h8, T8⟩
      · have k1 : ¬ ((k : Int) < 64) := by omega
        go_wp2_with fail
        have hR := heap_alloc_new wr (.cells #[.int .i64 15, .int .i64 U] 3)
        have tR := (Touch.refl Nil wr).alloc (.cells #[.int .i64 15, .int .i64 U] 3)
        generalize wr.alloc (.cells #[.int .i64 15, .int .i64 U] 3) = WR at *
        have h5 : YAt WR q p b c y := Sys.nil h4 tR
        have T5 := T4.trans tR
        clear h4 T4 tR
        generalize wr.heap.size = R at *
        go_loopg [208] 2 (fun g i wr => ∃ k : Nat, g + k = 2 ∧ i = .int .i64 k ∧ YAt wr q p b c y ∧ wr.heap[R]? = some (.cells #[.int .i64 15, .int .i64 U] 3 (0, 0)) ∧ Touch Nil w wr)
        case atStart => exact ⟨0, by omega, rfl, h5, hR, T5⟩
        case round =>
          clear h5 T5 hR
          obtain ⟨j, hgj, rfl, h5, hR, T5⟩ := hrel
          by_cases hj : j < 2
          · have j1 : (j : Int) < 2 := by omega
            obtain ⟨r, hr, pl, bb, hto⟩ : ∃ r, (∀ wx : World, wx.heap[R]? = some (.cells #[.int .i64 15, .int .i64 U] 3 (0, 0)) → wx.cell? ⟨R, j, none⟩ = some (.int .i64 r)) ∧ ∃ pl bb, toP y.s r 448 = (⟨pl, bb, false, true, true, 12⟩, 0) := by
              rcases (by omega : j = 0 ∨ j = 1) with rfl | rfl
              · exact ⟨15, fun wx e => by simp [World.cell?, e], by have := gate_to hn4 hw4 hy4.kern hw4.k7; rw [eK] at this; exact this⟩
              · exact ⟨U, fun wx e => by simp [World.cell?, e], by have := gate_to hn4 hw4 hy4.user hw4.u7; rw [eU] at this; exact this⟩
            have hc := hr _ hR
            have hTo := to_any h5.me hw4.word r 448
            rw [hto] at hTo
            unfold stepV at hTo
            dsimp only at hTo
            go_wp2_with fail
            with_reducible refine hTo.mono ?_
            rintro e w6 ⟨a6, c6, rfl, _, b6⟩
            have t6 : Touch Nil wr w6 := Touch.ofBelow b6
            have h6 : YAt w6 q p b c y := Sys.nil h5 t6
            have T6 := T5.trans t6
            have hR6 := (b6.block R (lt_of_block' hR)).trans hR
            clear h5 T5 t6 b6 hTo hR hc hr
            go_wp2_with fail
            have tA := (Touch.refl Nil w6).alloc (.cells #[.slice a6 pl.length c6, .int .u64 bb, .bool false, .bool true, .bool true, .int .i64 12] 42)
            go_roundg (2 - (j + 1))
            case measure => omega
            case rel => exact ⟨j + 1, by omega, by go_num, Sys.nil h6 tA, (tA.block R (lt_of_block' hR6) (fun h => h)).trans hR6, T6.trans tA⟩
          · have j1 : ¬ ((j : Int) < 2) := by omega
            have n1 : y.may 256 = false := by unfold YS.may; rw [show y.S.hasP 256 = false by cases h : y.S.hasP 256; rfl; have := ((hasP_iff _ _).1 h).2.2; omega]; rfl
            have n2 : y.may (-1) = false := by unfold YS.may; rw [show y.S.hasP (-1) = false by cases h : y.S.hasP (-1); rfl; have := ((hasP_iff _ _).1 h).2.1; omega]; rfl
            have n3 : getP y.S y.s 256 = 0 := by unfold getP; rw [if_neg]; rintro ⟨h, _⟩; have := ((hasP_iff _ _).1 h).2.2; omega
            have hS1 := fun wx (hx : YAt wx q p b c y) => set_any (w := wx) hx hy4.ok 256 V
            have hS2 := fun wx (hx : YAt wx q p b c y) => set_any (w := wx) hx hy4.ok (-1) V
            have hGt := fun wx (hx : YAt wx q p b c y) => get_any (w := wx) hx hy4.ok 256
            rw [n1] at hS1
            rw [n2] at hS2
            rw [n3] at hGt
            simp only [Bool.false_eq_true, if_false] at hS1 hS2
            go_wp2_with fail
            with_reducible refine (hS1 _ h5).mono ?_
            rintro e w6 ⟨rfl, h6, t6⟩
            have T6 : Touch Nil w w6 := T5.transNew t6 (fun i hi e => by omega)
            go_wp2_with fail
            with_reducible refine (hGt _ h6).mono ?_
            rintro e w7 ⟨rfl, t7⟩
            have h7 : YAt w7 q p b c y := Sys.nil h6 t7
            have T7 := T6.trans t7
            go_wp2_with fail
            with_reducible refine (hS2 _ h7).mono ?_
            rintro e w8 ⟨rfl, h8, t8⟩
            have T8 : Touch Nil w w8 := T7.transNew t8 (fun i hi e => by omega)
            go_wp2_with fail
            with_reducible refine (wakes9 w8).mono ?_
            rintro e w9 ⟨rfl, t9⟩
            go_wp2_with fail
            go_ret
            exact ⟨rfl, T8.trans t9⟩
end Go.Proofs.Ytfbmjagchjhddab

/-
  The law SpaceApart, walked.
-/
import Derived.Test.YtaofkedcdeocjaaSpAq
import Derived.Test.YtaofkedcdeocjaaSlices
import Derived.Test.YtaofkedcdeocjaaKeep
namespace Go.Proofs.Ytaofkedcdeocjaa
open Go.ChangeShapes Go.WideShapes Go.ChangeAt Go.RowKit

/-- Two spaces with their pool and their memory. -/
structure Duo (w : World) (q r p b c : Nat) (A B : SS) (R : Nat → Int) (s : MS) : Prop where
  a : Sys w q p b c A R s
  b : SpAt w r b p B
namespace Duo
variable {w w' : World} {q r p b c : Nat} {A B : SS} {R : Nat → Int} {s : MS}
theorem sb (h : Duo w q r p b c A B R s) : Sys w r p b c B R s := ⟨h.b, h.a.po, h.a.me⟩
theorem nil (h : Duo w q r p b c A B R s) (t : Touch Nil w w') : Duo w' q r p b c A B R s := ⟨h.a.nil t, h.b.touch t (fun h => h)⟩
theorem setA (h : Duo w q r p b c A B R s) (hne : q ≠ r) {y : YS} (t : Touch (fun x => x = q ∨ x = p ∨ x = c) w w') (ha : YAt w' q p b c y) : Duo w' q r p b c y.S B y.R y.s :=
  ⟨ha, h.b.touch t (by rintro (e | e | e); exact hne e.symm; exact h.sb.qp e; exact h.sb.qc e)⟩
theorem setB (h : Duo w q r p b c A B R s) (hne : q ≠ r) {y : YS} (t : Touch (fun x => x = r ∨ x = p ∨ x = c) w w') (hb : YAt w' r p b c y) : Duo w' q r p b c A y.S y.R y.s :=
  ⟨⟨h.a.sp.touch t (by rintro (e | e | e); exact hne e; exact h.a.qp e; exact h.a.qc e), hb.po, hb.me⟩, hb.sp⟩
end Duo
abbrev aval (x pg : Int) : Int := IntKind.u64.wrap (x + pg)
/-- What the loop keeps. -/
structure ApI (x : Int) (pg : Nat → Int) (k : Nat) (A B : SS) (R : Nat → Int) (s : MS) : Prop where
  two : Two A B R s
  n : s.n = 64
  left : s.left + A.tabs.length + B.tabs.length = 49
  room : 45 ≤ s.left + 2 * k
  got : ∀ j, j < k → j % 2 = 1 → getP B s (pg j) = aval x (pg j)
theorem ApI.start (k : Bool) (x : Int) (pg : Nat → Int) : ApI x pg 0 (y64 k).S (z64 k).S (z64 k).R (z64 k).s := by
  obtain ⟨t1, t2⟩ := z64_tabs k
  have := z64_left k
  exact ⟨z64_two k, z64_n k, by rw [t1, t2, this]; cases k <;> rfl, by rw [this]; cases k <;> decide, fun j h => by omega⟩
theorem ApI.even {x : Int} {pg : Nat → Int} {k : Nat} {A B : SS} {R : Nat → Int} {s : MS} (h : ApI x pg k A B R s) (hk : k < 10) (he : k % 2 = 0) (p0 : 0 ≤ pg k) (p1 : pg k < 256) (v : Int) :
    (⟨A, R, s⟩ : YS).may (pg k) = true ∧ ApI x pg (k + 1) ((⟨A, R, s⟩ : YS).set (pg k) v).S B ((⟨A, R, s⟩ : YS).set (pg k) v).R ((⟨A, R, s⟩ : YS).set (pg k) v).s := by
  have hr := h.room
  obtain ⟨m, t, _, _, hb, hl, hl2⟩ := h.two.set p0 p1 v (by omega)
  have hn := (set_facts m h.two.a.n64 v).2.2.2.1
  refine ⟨m, t, hn.trans h.n, by have := h.left; omega, by omega, fun j hj ho => ?_⟩
  rw [hb]; exact h.got j (by omega) ho
theorem ApI.odd {x : Int} {pg : Nat → Int} {k : Nat} {A B : SS} {R : Nat → Int} {s : MS} (h : ApI x pg k A B R s) (hk : k < 10) (hp : ∀ j, 0 ≤ pg j ∧ pg j < 256) :
    (⟨B, R, s⟩ : YS).may (pg k) = true ∧ ApI x pg (k + 1) A ((⟨B, R, s⟩ : YS).set (pg k) (aval x (pg k))).S ((⟨B, R, s⟩ : YS).set (pg k) (aval x (pg k))).R ((⟨B, R, s⟩ : YS).set (pg k) (aval x (pg k))).s := by
  have hr := h.room
  obtain ⟨m, t, hg, ho, _, hl, hl2⟩ := h.two.symm.set (hp k).1 (hp k).2 (aval x (pg k)) (by omega)
  have hn := (set_facts m h.two.b.n64 (aval x (pg k))).2.2.2.1
  refine ⟨m, t.symm, hn.trans h.n, by have := h.left; omega, by omega, fun j hj hodd => ?_⟩
  by_cases e : pg j = pg k
  · rw [e]; exact hg
  · rw [ho (pg j) e (hp j).1 (hp j).2]
    exact h.got j (by have : j ≠ k := fun e2 => e (by rw [e2]); omega) hodd

set_option maxRecDepth 20000 in
set_option maxHeartbeats 4000000 in
theorem spaceApart_walk (kpti : Bool) (a1 : Option Addr) (len1 cap1 : Nat) (z1 : List Int) (x : Int) (w : World) (r1 : Row .i64 w a1 len1 cap1 z1) :
    Calls Try.prog 3 #[.bool kpti, .slice a1 len1 cap1, .int .u64 x] w fun e w' => e = .returned (.bool true) ∧ Touch Nil w w' := by
  obtain ⟨hm1, p1⟩ := r1.plain
  unfold maxLen at hm1
  clear r1
  go_enter Try.func3, Try.ntmps3
  go_upto_region 2 with fail
  have hg : (w.alloc (.cells #[.int .i64 64, .int .i64 1, .bool kpti, .bool false] 25)).heap[w.heap.size]? = some (.cells #[.int .i64 64, .int .i64 1, .bool kpti, .bool false] 25 (0, 0)) := heap_alloc_new w _
  have t0 := (Touch.refl Nil w).alloc (.cells #[.int .i64 64, .int .i64 1, .bool kpti, .bool false] 25)
  have hs0 : w.heap.size < (w.alloc (.cells #[.int .i64 64, .int .i64 1, .bool kpti, .bool false] 25)).heap.size := by simp
  generalize w.alloc (.cells #[.int .i64 64, .int .i64 1, .bool kpti, .bool false] 25) = W at *
  have HG : ∀ (B : Nat) wx, w.heap.size < B → Touch (fun x => B ≤ x) W wx → wx.cell? ⟨w.heap.size, 0, none⟩ = some (.int .i64 64) ∧ wx.cell? ⟨w.heap.size, 1, none⟩ = some (.int .i64 1) ∧ wx.cell? ⟨w.heap.size, 2, none⟩ = some (.bool kpti) ∧ wx.cell? ⟨w.heap.size, 3, none⟩ = some (.bool false) := fun B wx hB tx => by
    have := (tx.block w.heap.size hs0 (by omega)).trans hg
    simp [World.cell?, this]
  have hM := new_any (64 : Int) W
  rw [show MS.many (64 : Int) = 64 by decide] at hM
  go_upto_region 3 with (go_at_call 9; refine hM.mono ?_; rintro e w1 ⟨rfl, m1, t1, hs1⟩)
  clear hM
  obtain ⟨c, hc⟩ : ∃ c, Hid (W.heap.size = c) := ⟨_, rfl⟩
  rw [hc.out] at m1 hs1 hs0
  rw [hc.out]
  have T1 : Touch (fun x => c ≤ x) W w1 := t1.mono (fun _ _ h => h.elim)
  have hB := boot_yes m1 1 kpti false (by decide) (by decide)
  rw [fresh_n] at hB
  unfold cfV at hB
  obtain ⟨a0, a1', a2, a3⟩ := HG c w1 (by omega) T1
  go_upto_region 5 with fail
  go_upto_region 6 with (go_at_call 10; refine hB.mono ?_; rintro e w2 ⟨rfl, m2, t2⟩)
  clear a0 a1' a2 a3 hB
  have t2a := t2.alloc (.cells #[.int .i64 3, .int .i64 13] 29)
  have m2a := m2.touch ((Touch.refl Nil w2).alloc (.cells #[.int .i64 3, .int .i64 13] 29)) (fun h => h) (fun h => h)
  have hf : (w2.alloc (.cells #[.int .i64 3, .int .i64 13] 29)).heap[w2.heap.size]? = some (.cells #[.int .i64 3, .int .i64 13] 29 (0, 0)) := heap_alloc_new w2 _
  have hcF : c + 2 ≤ w2.heap.size := by have := t2.size; omega
  generalize w2.alloc (.cells #[.int .i64 3, .int .i64 13] 29) = W2 at *
  generalize w2.heap.size = Fx at *
  have T2 : Touch (fun x => c ≤ x) W W2 := T1.trans (t2a.mono (fun x _ e => by omega))
  go_upto_region 7 with (go_at_call 11; refine (pnew_any (c + 1)).mono ?_; rintro e w3 ⟨rfl, p3, t3, hs3⟩)
  have m3 := m2a.touch t3 (fun h => h) (fun h => h)
  have T3 : Touch (fun x => c ≤ x) W w3 := T2.trans (t3.mono (fun _ _ h => h.elim))
  have hFl : Fx < W2.heap.size := lt_of_block' hf
  obtain ⟨p, hp⟩ : ∃ p, Hid (W2.heap.size = p) := ⟨_, rfl⟩
  rw [hp.out] at p3 hs3 hFl
  rw [hp.out]
  have HF : ∀ wx, Touch (fun x => x = p ∨ x = c ∨ p + 1 ≤ x) w3 wx → wx.cell? ⟨Fx, 0, none⟩ = some (.int .i64 3) ∧ wx.cell? ⟨Fx, 1, none⟩ = some (.int .i64 13) := fun wx tx => by
    have hf3 := (t3.block Fx (lt_of_block' hf) (fun h => h)).trans hf
    have := (tx.block Fx (lt_of_block' hf3) (by omega)).trans hf3
    simp [World.cell?, this]
  have HC : ∀ wx, Touch (fun x => x = p ∨ x = c ∨ p + 1 ≤ x) w3 wx → wx.cell? ⟨w.heap.size, 0, none⟩ = some (.int .i64 64) ∧ wx.cell? ⟨w.heap.size, 1, none⟩ = some (.int .i64 1) ∧ wx.cell? ⟨w.heap.size, 2, none⟩ = some (.bool kpti) ∧ wx.cell? ⟨w.heap.size, 3, none⟩ = some (.bool false) := fun wx tx =>
    HG c wx (by omega) (T3.trans (tx.mono (fun x _ e => by omega)))
  have BB : ∀ wx, Touch (fun x => x = p ∨ x = c ∨ p + 1 ≤ x) w3 wx → Touch Nil w wx := fun wx tx => t0.transNew (T3.trans (tx.mono (fun x _ e => (by omega : c ≤ x)))) (fun i hi e => by omega)
  obtain ⟨a0, a1', a2, a3⟩ := HC w3 (Touch.refl _ _)
  obtain ⟨f0, f1⟩ := HF w3 (Touch.refl _ _)
  have hLf := pleft_any p3 m3
  rw [show ((MS.fresh 64).boot kpti).left = 49 from up64_all kpti] at hLf
  have hN := new_yes (s := (MS.fresh 64).boot kpti) p3 m3 64 1 kpti false 0 (up64_left kpti)
  unfold cfV at hN
  go_wp2_with fail
  with_reducible refine hLf.mono ?_
  rintro e wq ⟨rfl, rfl⟩
  go_wp2_with fail
  with_reducible refine hN.mono ?_
  rintro e w4 ⟨q, rfl, hq, h4, t4⟩
  clear a0 a1' a2 a3 f0 f1 hN hLf
  have U4 : Touch (fun x => x = p ∨ x = c ∨ p + 1 ≤ x) w3 w4 := t4.mono (fun x _ e => by omega)
  have hqp : p + 1 ≤ q := by omega
  replace h4 : YAt w4 q p (c + 1) c (y64 kpti) := h4
  obtain ⟨a0, a1', a2, a3⟩ := HC w4 U4
  obtain ⟨f0, f1⟩ := HF w4 U4
  have hN := new_yes (s := (y64 kpti).s) h4.po h4.me 64 1 kpti false 1 (y64_two kpti)
  unfold cfV at hN
  go_wp2_with fail
  with_reducible refine hN.mono ?_
  rintro e w5 ⟨r, rfl, hr, h5, t5⟩
  clear a0 a1' a2 a3 f0 f1 hN
  have hqr : q ≠ r := by have := h4.sp.lt; omega
  have hrp : p + 1 ≤ r := by have := h4.sp.lt; omega
  have U5 : Touch (fun x => x = p ∨ x = c ∨ p + 1 ≤ x) w3 w5 := U4.trans (t5.mono (fun x _ e => by omega))
  replace h5 : YAt w5 r p (c + 1) c (z64 kpti) := h5
  have hD : Duo w5 q r p (c + 1) c (y64 kpti).S (z64 kpti).S (z64 kpti).R (z64 kpti).s := ⟨⟨h4.sp.touch t5 (by rintro (e | e); exact h4.qp e; exact h4.qc e), h5.po, h5.me⟩, h5.sp⟩
  clear h4 h5 t4 t5 U4 HF HC HG m1 m2 m3 m2a p3
  obtain ⟨pg, hpg⟩ : ∃ pg : Nat → Int, ∀ j, z1.getD j 0 % 256 = pg j := ⟨fun j => z1.getD j 0 % 256, fun _ => rfl⟩
  have hA0 := ApI.start kpti x pg
  have hp : ∀ j, 0 ≤ pg j ∧ pg j < 256 := fun j => by rw [← hpg]; omega
  generalize (y64 kpti).S = A0 at *
  generalize (z64 kpti).S = B0 at *
  generalize (z64 kpti).R = R0 at *
  generalize (z64 kpti).s = s0 at *
  go_upto_block 0 with fail
  obtain ⟨K, hK⟩ : ∃ K, min len1 10 = K := ⟨_, rfl⟩
  go_cut [16] (fun _ wx => ∃ A B R s, Duo wx q r p (c + 1) c A B R s ∧ ApI x pg K A B R s ∧ Touch (fun x => x = p ∨ x = c ∨ p + 1 ≤ x) w3 wx)
  case first =>
    go_wp2_with fail
    go_loopg [16] 10 (fun g i wr => ∃ (k : Nat) (A B : SS) (R : Nat → Int) (s : MS), g + k = 10 ∧ k ≤ len1 ∧ i = .int .i64 k ∧ Duo wr q r p (c + 1) c A B R s ∧ ApI x pg k A B R s ∧ Touch (fun x => x = p ∨ x = c ∨ p + 1 ≤ x) w3 wr)
    case atStart => exact ⟨0, _, _, _, _, by omega, by omega, rfl, hD, hA0, U5⟩
    case round =>
      clear hD hA0 U5
      obtain ⟨k, A, B, R, s, hgk, hkl, rfl, hD, hA, U⟩ := hrel
      by_cases hgo : k < len1 ∧ k < 10
      · obtain ⟨hg1, hg2⟩ := hgo
        rcases p1 with p1 | ⟨b1, o1, rfl, hb1, hc1⟩
        · omega
        have c0 := Plain.cell hc1 hb1 ((BB _ U).below (Nat.le_refl _) (fun _ e => e.elim)) k (by omega)
        have k1 : (k : Int) < len1 := by omega
        have k2 : (k : Int) < 10 := by omega
        have hW := within_any (z1.getD k 0) 256 wr (by decide) (by decide)
        rw [hpg] at hW
        have hAe := fun e => hA.even hg2 e (hp k).1 (hp k).2 (aval x (pg k))
        have hAo := hA.odd hg2 hp
        obtain ⟨P0, P1⟩ := hp k
        generalize z1.getD k 0 = y0 at c0 hW
        go_wp2_with fail
        with_reducible refine hW.mono ?_
        rintro e wq ⟨rfl, rfl⟩
        rcases (by omega : k % 2 = 0 ∨ k % 2 = 1) with he | he
        · have he2 : (k : Int) % 2 = 0 := by omega
          obtain ⟨hm, hA2⟩ := hAe he
          have hSt := set_any hD.a hA.two.a.ok (pg k) (aval x (pg k))
          rw [hm, if_pos rfl] at hSt
          generalize (⟨A, R, s⟩ : YS).set (pg k) (aval x (pg k)) = y at *
          generalize pg k = n at *
          go_wp2_with fail
          with_reducible refine hSt.mono ?_
          rintro e w6 ⟨rfl, h6, t6⟩
          go_wp2_with fail
          go_roundg (10 - (k + 1))
          case measure => omega
          case rel => exact ⟨k + 1, _, _, _, _, by omega, by omega, by go_num, hD.setA hqr t6 h6, hA2, U.trans (t6.mono (fun x _ e => by omega))⟩
        · have he2 : (k : Int) % 2 = 1 := by omega
          obtain ⟨hm, hA2⟩ := hAo
          have hSt := set_any hD.sb hA.two.b.ok (pg k) (aval x (pg k))
          rw [hm, if_pos rfl] at hSt
          generalize (⟨B, R, s⟩ : YS).set (pg k) (aval x (pg k)) = y at *
          generalize pg k = n at *
          go_wp2_with fail
          with_reducible refine hSt.mono ?_
          rintro e w6 ⟨rfl, h6, t6⟩
          go_wp2_with fail
          go_roundg (10 - (k + 1))
          case measure => omega
          case rel => exact ⟨k + 1, _, _, _, _, by omega, by omega, by go_num, hD.setB hqr t6 h6, hA2, U.trans (t6.mono (fun x _ e => by omega))⟩
      · obtain rfl : k = K := by omega
        by_cases hl : k < len1
        · have k1 : (k : Int) < len1 := by omega
          have k2 : ¬ (k : Int) < 10 := by omega
          go_wp2_with fail
          go_meet
          exact ⟨A, B, R, s, hD, hA, U⟩
        · have k1 : ¬ (k : Int) < len1 := by omega
          go_wp2_with fail
          go_meet
          exact ⟨A, B, R, s, hD, hA, U⟩
  case rest =>
    clear hD hA0 U5
    obtain ⟨A, B, R, s, hD, hA, U⟩ := hcut
    apply_assumption
    have hT1 := tables_any hD.a.sp
    have hT2 := fun wx (h : SpAt wx r (c + 1) p B) => tables_any h
    have hlA := stab_len A
    have hlB := stab_len B
    have hAl : A.tabs.length ≤ 38 := by have := ta_len A 4; rw [tabs_ta]; omega
    have hBl : B.tabs.length ≤ 38 := by have := ta_len B 4; rw [tabs_ta]; omega
    have hne := hA.two.stab_ne
    have hlf := hA.left
    go_wp2_with fail
    with_reducible refine hT1.mono ?_
    rintro e w6 ⟨a6, c6, rfl, hC6, b6⟩
    have t6 : Touch Nil wc w6 := Touch.ofBelow b6
    have hD6 := hD.nil t6
    have U6 := U.trans (t6.mono (fun _ _ h => h.elim))
    have hqw := hD.a.sp.lt
    have hrw := hD.b.lt
    have hpw := hD.a.po.row.lt
    have hcw := hD.a.me.row.lt
    have s6 := t6.size
    generalize wc.heap.size = Z0 at *
    clear hD U t6 b6 hT1
    go_wp2_with fail
    with_reducible refine (hT2 _ hD6.b).mono ?_
    rintro e w7 ⟨a7, c7, rfl, hC7, b7⟩
    have t7 : Touch Nil w6 w7 := Touch.ofBelow b7
    have hD7 := hD6.nil t7
    have U7 := U6.trans (t7.mono (fun _ _ h => h.elim))
    have hC6' : CL w7 Z0 a6 A.stab := by
      rcases hC6 with h | ⟨g, e, h1, h2, h3⟩
      · exact Or.inl h
      · refine Or.inr ⟨g, e, h1, Nat.lt_of_lt_of_le h2 b7.size, fun i hi => ?_⟩
        rw [b7.cell (p := ⟨g, i, none⟩) h2]; exact h3 i hi
    clear hD6 U6 hC6 t7 b7 hT2
    generalize w6.heap.size = Z1 at *
    go_upto_block 2 with fail
    go_cut [115] (fun _ wx => w7 = wx)
    case first =>
      go_wp2_with fail
      go_loopg [115] A.tabs.length (fun g i wr => ∃ k : Nat, g + k = A.tabs.length ∧ i = .int .i64 k ∧ w7 = wr)
      case atStart => exact ⟨0, by omega, rfl, rfl⟩
      case round =>
        obtain ⟨k, hgk, rfl, rfl⟩ := hrel
        by_cases hk : k < A.tabs.length
        · have k1 : (k : Int) < (A.tabs.length : Int) := by omega
          rcases hC6' with h | ⟨g6, rfl, hg6, hg6l, hc6⟩
          · rw [h] at hlA; simp at hlA; omega
          have c6k := hc6 k (by omega)
          have hnk := fun j => hne k j (by omega)
          clear hc6 hne
          generalize A.stab.getD k 0 = Y at *
          go_wp2_with fail
          go_loopg [121] B.tabs.length (fun g i wr => ∃ j : Nat, g + j = B.tabs.length ∧ i = .int .i64 j ∧ w7 = wr)
          case atStart => exact ⟨0, by omega, rfl, rfl⟩
          case round =>
            obtain ⟨j, hgj, rfl, rfl⟩ := hrel
            by_cases hj : j < B.tabs.length
            · have j1 : (j : Int) < (B.tabs.length : Int) := by omega
              rcases hC7 with h | ⟨g7, rfl, hg7, hg7l, hc7⟩
              · rw [h] at hlB; simp at hlB; omega
              have c7j := hc7 j (by omega)
              have hnj := hnk j (by omega)
              clear hc7 hnk
              generalize B.stab.getD j 0 = Z at *
              go_wp2_with fail
              go_roundg (B.tabs.length - (j + 1))
              case measure => omega
              case rel => exact ⟨j + 1, by omega, by go_num, rfl⟩
            · have j1 : ¬ (j : Int) < (B.tabs.length : Int) := by omega
              go_wp2_with fail
              go_roundg (A.tabs.length - (k + 1))
              case measure => omega
              case rel => exact ⟨k + 1, by omega, by go_num, rfl⟩
        · have k1 : ¬ (k : Int) < (A.tabs.length : Int) := by omega
          go_wp2_with fail
          go_meet
          rfl
    case rest =>
      obtain rfl := hcut
      apply_assumption
      clear hC6' hC7 hne
      have hLf := pleft_any hD7.a.po hD7.a.me
      have hl2 : (s.left : Int) = 49 - (A.tabs.length : Int) - (B.tabs.length : Int) := by omega
      rw [hl2] at hLf
      go_wp2_with fail
      with_reducible refine hLf.mono ?_
      rintro e wq ⟨rfl, rfl⟩
      have hDr := drop_any hD7.a (fun j => by have := hA.two.bd j; omega)
      go_wp2_with fail
      with_reducible refine hDr.mono ?_
      rintro e w8 ⟨rfl, h8, t8⟩
      obtain ⟨hIB, hrB, hbd, hlf8, hgB⟩ := hA.two.drop
      have hB8 : Sys w8 r p (c + 1) c B (giveL R s A.stab).1 (giveL R s A.stab).2 := ⟨hD7.b.touch t8 (by rintro (e | e | e); exact hqr e.symm; exact hD7.sb.qp e; exact hD7.sb.qc e), h8.po, h8.me⟩
      have U8 := U7.trans (t8.mono (fun x _ e => (by omega : x = p ∨ x = c ∨ p + 1 ≤ x)))
      have hgot : ∀ j, j < K → j % 2 = 1 → getP B (giveL R s A.stab).2 (pg j) = aval x (pg j) := fun j h1 h2 => by rw [hgB]; exact hA.got j h1 h2
      clear hD7 hDr hLf h8 t8 U7 hgB
      generalize (giveL R s A.stab).1 = R8 at *
      generalize (giveL R s A.stab).2 = s8 at *
      have hLf := pleft_any hB8.po hB8.me
      have hl3 : (s8.left : Int) = 49 - (B.tabs.length : Int) := by omega
      rw [hl3] at hLf
      go_wp2_with fail
      with_reducible refine hLf.mono ?_
      rintro e wq ⟨rfl, rfl⟩
      go_upto_block 6 with fail
      go_cut [24] (fun _ wx => ∃ W8, w8 = W8 ∧ Touch Nil W8 wx)
      case first =>
        go_wp2_with fail
        go_loopg [24] 11 (fun g i wr => ∃ k : Nat, g + k = 12 ∧ k % 2 = 1 ∧ k < 12 ∧ i = .int .i64 k ∧ Touch Nil w8 wr)
        case atStart => exact ⟨1, by omega, by omega, by omega, rfl, Touch.refl _ _⟩
        case round =>
          obtain ⟨k, hgk, hk2, hk12, rfl, t9⟩ := hrel
          by_cases hgo : k < len1 ∧ k < 10
          · obtain ⟨hg1, hg2⟩ := hgo
            rcases p1 with p1 | ⟨b1, o1, rfl, hb1, hc1⟩
            · omega
            have c0 := Plain.cell hc1 hb1 ((BB _ (U8.trans (t9.mono (fun _ _ h => h.elim)))).below (Nat.le_refl _) (fun _ e => e.elim)) k (by omega)
            have k1 : (k : Int) < len1 := by omega
            have k2 : (k : Int) < 10 := by omega
            have hW := within_any (z1.getD k 0) 256 wr (by decide) (by decide)
            rw [hpg] at hW
            have hg := hgot k (by omega) hk2
            have hGt := get_any (hB8.nil t9) hIB.ok (pg k)
            rw [hg] at hGt
            obtain ⟨P0, P1⟩ := hp k
            clear hgot hg
            generalize z1.getD k 0 = y0 at c0 hW
            generalize pg k = n at *
            go_wp2_with fail
            with_reducible refine hW.mono ?_
            rintro e wq ⟨rfl, rfl⟩
            go_wp2_with fail
            with_reducible refine hGt.mono ?_
            rintro e w9 ⟨rfl, t10⟩
            go_wp2_with fail
            go_roundg (12 - (k + 2))
            case measure => omega
            case rel => exact ⟨k + 2, by omega, by omega, by omega, by go_num, t9.trans t10⟩
          · by_cases hl : k < len1
            · have k1 : (k : Int) < len1 := by omega
              have k2 : ¬ (k : Int) < 10 := by omega
              go_wp2_with fail
              go_meet
              exact ⟨_, rfl, t9⟩
            · have k1 : ¬ (k : Int) < len1 := by omega
              go_wp2_with fail
              go_meet
              exact ⟨_, rfl, t9⟩
      case rest =>
        obtain ⟨_, rfl, t9⟩ := hcut
        apply_assumption
        have hB9 := hB8.nil t9
        have U9 := U8.trans (t9.mono (fun _ _ h => h.elim))
        have hDr := drop_any hB9 (fun j => by have := hbd j; omega)
        have hl9 := hIB.drop hrB hbd
        clear hB8 U8 t9 hgot
        go_wp2_with fail
        with_reducible refine hDr.mono ?_
        rintro e w10 ⟨rfl, h10, t10⟩
        have U10 := U9.trans (t10.mono (fun x _ e => (by omega : x = p ∨ x = c ∨ p + 1 ≤ x)))
        have hLf := pleft_any h10.po h10.me
        rw [hl9, show ((s8.left + B.tabs.length : Nat) : Int) = 49 by omega] at hLf
        clear hDr t10 U9 hB9
        go_wp2_with fail
        with_reducible refine hLf.mono ?_
        rintro e wq ⟨rfl, rfl⟩
        go_wp2_with fail
        with_reducible refine (wakes9 _).mono ?_
        rintro e w11 ⟨rfl, t11⟩
        go_wp2_with fail
        go_ret
        exact ⟨rfl, (BB _ U10).trans t11⟩
end Go.Proofs.Ytaofkedcdeocjaa

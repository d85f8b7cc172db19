/-
  The law RegsJumps, walked.
-/
import Derived.Test.YtdhamejgdapdjaaDoorRegH
import Derived.Deep.LoopGhost
namespace Go.Proofs.YtdhamejgdapdjaaDoor
open Go.ChangeShapes Go.WideShapes Go.ChangeAt Go.RowKit

set_option maxRecDepth 20000 in
set_option maxHeartbeats 2000000 in
theorem regsJumps_walk (a n sz pc v : Int) (w : World) (hV : Sh w) :
    Calls Tryd.prog 8 #[.int .i64 a, .int .i64 n, .int .i64 sz, .int .i64 pc, .int .u64 v] w fun e w' => e = .returned (.bool true) ∧ Below w.heap.size w w' := by
  have A0 := Int.emod_nonneg a (b := 8) (by omega)
  have A8 := Int.emod_lt_of_pos a (b := 8) (by omega)
  have M0 := Int.emod_nonneg n (b := 24) (by omega)
  have M1 := Int.emod_lt_of_pos n (b := 24) (by omega)
  have Z0 := Int.emod_nonneg sz (b := 24) (by omega)
  have Z1 := Int.emod_lt_of_pos sz (b := 24) (by omega)
  obtain ⟨Z, hZ⟩ : ∃ Z : Nat, 1 + sz % 24 = Z := ⟨(1 + sz % 24).toNat, by omega⟩
  have P0 := Int.emod_nonneg pc (b := (Z : Int)) (by omega)
  have P1 := Int.emod_lt_of_pos pc (b := (Z : Int)) (by omega)
  go_enter Tryd.func8, Tryd.ntmps8
  go_upto_region 2 with (go_at_call 17; refine (within_any _ _ _ (by decide) (by decide)).mono ?_; rintro e wq ⟨rfl, rfl⟩)
  go_upto_block 0 with (go_at_call 17; refine (within_any _ _ _ (by omega) (by omega)).mono ?_; rintro e wq ⟨rfl, rfl⟩)
  generalize a % 8 = A at *
  generalize n % 24 = M at *
  generalize pc % (Z : Int) = P at *
  have Z24 : 1 ≤ Z ∧ Z ≤ 24 := by omega
  clear hZ Z0 Z1
  have hB0 : SB (w.alloc (.cells #[.int .u64 0, .int .u64 0, .int .u64 0, .int .u64 0, .int .u64 0, .int .u64 0, .int .u64 0, .int .u64 0, .slice none 0 0, .int .i64 P] 45)) w.heap.size ⟨fun _ => 0, P⟩ none 0 0 := heap_alloc_new w _
  have hb0 : Below w.heap.size w (w.alloc (.cells #[.int .u64 0, .int .u64 0, .int .u64 0, .int .u64 0, .int .u64 0, .int .u64 0, .int .u64 0, .int .u64 0, .slice none 0 0, .int .i64 P] 45)) := (Below.refl _ w).alloc (Nat.le_refl _) _
  have hsz0 : (w.alloc (.cells #[.int .u64 0, .int .u64 0, .int .u64 0, .int .u64 0, .int .u64 0, .int .u64 0, .int .u64 0, .int .u64 0, .slice none 0 0, .int .i64 P] 45)).heap.size = w.heap.size + 1 := by simp
  have hown0 := World.ownsRow_nil (w.alloc (.cells #[.int .u64 0, .int .u64 0, .int .u64 0, .int .u64 0, .int .u64 0, .int .u64 0, .int .u64 0, .int .u64 0, .slice none 0 0, .int .i64 P] 45)) (w.heap.size + 1) 32 4
  generalize w.alloc (.cells #[.int .u64 0, .int .u64 0, .int .u64 0, .int .u64 0, .int .u64 0, .int .u64 0, .int .u64 0, .int .u64 0, .slice none 0 0, .int .i64 P] 45) = W at *
  go_cut [12] (fun _ wr => ∃ aS cap, SB wr w.heap.size ⟨fun _ => 0, P⟩ aS Z cap ∧ IsF wr w.heap.size aS (List.replicate Z ⟨6, A, 0, M⟩) ∧ Below w.heap.size w wr)
  case first =>
    go_wp2_with fail
    go_loopg [12] Z (fun g i wr => ∃ (k : Nat) (aS : Option Addr) (cap : Nat), g + k = Z ∧ i = .int .i64 k ∧ SB wr w.heap.size ⟨fun _ => 0, P⟩ aS k cap ∧ wr.ownsRow (w.heap.size + 1) 32 4 (.slice aS (List.replicate k (⟨6, A, 0, M⟩ : Ins)).length cap) (List.replicate k (⟨6, A, 0, M⟩ : Ins)).length (flatI (List.replicate k ⟨6, A, 0, M⟩)) ∧ Below w.heap.size w wr)
    case atStart => exact ⟨0, none, 0, by omega, rfl, hB0, hown0, hb0⟩
    case round =>
      obtain ⟨k, aS, cap, hg, rfl, hSB, hown, hB⟩ := hrel
      by_cases hk : k < Z
      · have hk1 : (k : Int) < (Z : Int) := by omega
        have hlt := hSB.lt
        obtain ⟨g', c', wN, hrun, hownN, bN⟩ := app_one hown (by omega) (by simp; omega) ⟨6, A, 0, M⟩
        rw [List.length_replicate] at hrun
        have hSN : SB wN w.heap.size ⟨fun _ => 0, P⟩ aS k cap := (bN.block _ (by omega)).trans hSB
        have hBN : Below w.heap.size w wN := hB.trans (bN.mono (by omega))
        have c8 := (SCells.of hSB).c8
        have d8 := (SCells.of hSN).c8
        have df := cells_frozen hSN 8
        have hl1 : List.replicate k (⟨6, A, 0, M⟩ : Ins) ++ [⟨6, A, 0, M⟩] = List.replicate (k + 1) ⟨6, A, 0, M⟩ := by rw [List.replicate_succ']
        rw [hl1] at hownN
        go_wp2_with (refine Lib.wpList_append_run_sl _ rfl _ _ 24 rfl _ _ rfl rfl hrun ?_)
        go_roundg (Z - (k + 1))
        case measure => omega
        case rel => exact ⟨k + 1, _, c', by omega, by go_num, hSN.setC _ _ _, own_set hownN (by show w.heap.size < _; omega) _, hBN.setCell (Nat.le_refl _) _⟩
      · have hkZ : k = Z := by omega
        subst hkZ
        have hk1 : ¬ ((k : Int) < (k : Int)) := by omega
        go_wp2_with fail
        go_meet
        exact ⟨aS, cap, hSB, IsF.own hown (by omega), hB⟩
  case rest =>
    obtain ⟨aS, cap, hSB, hI, hB⟩ := hcut
    have hSc := hSB.cell (k := A.toNat) (by omega)
    have hSf := cells_frozen hSB A.toNat
    go_upto_region 9 with fail
    have hSB1 := hSB.setR (k := A.toNat) (by omega) v
    have hI1 := hI.set A.toNat (.int .u64 v)
    have hB1 := hB.setCell (p := ⟨w.heap.size, A.toNat, none⟩) (Nat.le_refl _) (.int .u64 v)
    generalize wc.setCell ⟨w.heap.size, A.toNat, none⟩ (.int .u64 v) = W1 at *
    clear hSB hI hB hSc hSf hown0 hB0 hb0 hsz0
    obtain ⟨want1, hw1⟩ : ∃ u : Int, Hid ((if v = 0 then P + 1 else M) = u) := ⟨_, rfl⟩
    obtain ⟨want, hw2⟩ : ∃ u : Int, Hid ((if (Z : Int) ≤ want1 then 0 else want1) = u) := ⟨_, rfl⟩
    go_upto_if 54 with fail
    go_cut [13, 54] (fun v13 _ wx => v13 = .int .i64 want1 ∧ wx = W1)
    case first =>
      by_cases h0 : v = 0
      · rw [if_pos h0] at hw1
        have h0' : (v != 0) = false := by simp [h0]
        clear h0
        go_wp2_with fail
        go_meet
        exact ⟨by rw [← hw1.out], rfl⟩
      · rw [if_neg h0] at hw1
        have h0' : (v != 0) = true := by simp [h0]
        go_wp2_with fail
        go_meet
        exact ⟨by rw [← hw1.out], rfl⟩
    case rest =>
    obtain ⟨rfl, rfl⟩ := hcut
    go_upto_if 58 with fail
    go_cut [13, 58] (fun v13 _ wx => v13 = .int .i64 want ∧ wx = wc)
    case first =>
      by_cases h0 : (Z : Int) ≤ want1
      · rw [if_pos h0] at hw2
        go_wp2_with fail
        go_meet
        exact ⟨by rw [← hw2.out], rfl⟩
      · rw [if_neg h0] at hw2
        go_wp2_with fail
        go_meet
        exact ⟨by rw [← hw2.out], rfl⟩
    case rest =>
    obtain ⟨rfl, rfl⟩ := hcut
    have hlen : (List.replicate Z (⟨6, A, 0, M⟩ : Ins)).length = Z := List.length_replicate ..
    have hok : okP ⟨6, A, 0, M⟩ = true := by
      simp only [okP, shape, fitP, if_true, Bool.and_eq_true, decide_eq_true_eq]
      simp; omega
    have hnx : nextP (List.replicate Z ⟨6, A, 0, M⟩) P = some ⟨6, A, 0, M⟩ := by
      unfold nextP
      rw [if_neg (by omega), List.getElem?_replicate, if_pos (by omega)]
      simp [hok]
    have hnn : nextP (List.replicate Z ⟨6, A, 0, M⟩) Z = none := by
      unfold nextP
      rw [if_neg (by omega), List.getElem?_replicate, if_neg (by omega)]
      rfl
    have hpl : plainP (List.replicate Z ⟨6, A, 0, M⟩) ⟨fun j => if j = A.toNat then v else 0, P⟩ = some ⟨fun j => if j = A.toNat then v else 0, want⟩ := by
      unfold plainP
      rw [hnx]
      have hreg : RS.reg ⟨fun j => if j = A.toNat then v else 0, P⟩ A = v := by unfold RS.reg; rw [if_pos ⟨A0, A8⟩]; simp
      simp only [Option.bind_some, plainX, hlen, hreg]
      simp only [show ¬ ((6 : Int) = 1) by decide, show ¬ ((6 : Int) = 2) by decide, if_false, if_true]
      rw [← hw2.out, ← hw1.out]
      by_cases h0 : v = 0
      · simp only [h0, ne_eq, not_true_eq_false, if_false, if_true, RS.on, RS.go]
        rw [if_neg (by omega)]
      · simp only [h0, ne_eq, not_false_eq_true, if_true, if_false, RS.go]
    have hpn : plainP (List.replicate Z ⟨6, A, 0, M⟩) ⟨fun j => if j = A.toNat then v else 0, (Z : Int)⟩ = none := by
      unfold plainP; rw [hnn]; rfl
    clear hw1 hw2
    have hP := plain_some (n := Z) (c := cap) hlen.symm hpl hI1.toL (by omega) (by show _ ≤ P; omega) (hV.later hB1)
    generalize hrr : (fun j => if j = A.toNat then v else 0 : Nat → Int) = rr at *
    obtain ⟨y0, y1, y2, y3, y4, y5, y6, y7, y8, y9⟩ := SCells.of hSB1
    unfold stV at hP
    go_upto_region 15 with (go_at_call 18; refine hP.mono ?_; rintro e w3 ⟨a', c3, rfl, hI3, b3⟩)
    have b3a := b3.alloc b3.size (.cells #[.int .u64 (rr 0), .int .u64 (rr 1), .int .u64 (rr 2), .int .u64 (rr 3), .int .u64 (rr 4), .int .u64 (rr 5), .int .u64 (rr 6), .int .u64 (rr 7), .slice a' Z c3, .int .i64 want] 45)
    have hSt : SB (w3.alloc (.cells #[.int .u64 (rr 0), .int .u64 (rr 1), .int .u64 (rr 2), .int .u64 (rr 3), .int .u64 (rr 4), .int .u64 (rr 5), .int .u64 (rr 6), .int .u64 (rr 7), .slice a' Z c3, .int .i64 want] 45)) w3.heap.size ⟨rr, want⟩ a' Z c3 := heap_alloc_new w3 _
    have hSB3 := hSB1.later b3a
    have hI3 := hI1.toL.later b3a
    have hB3 := past hB1 b3a
    have hlt3 : w.heap.size ≠ w3.heap.size := by have := hSB1.lt; have := b3.size; omega
    have hg : ∀ g, aS = some ⟨g, 0, none⟩ → g ≠ w.heap.size := fun g hg => by
      rcases hI1 with h | ⟨g2, h2, h3, _⟩
      · rw [h] at hlen; simp at hlen; omega
      · rw [h3] at hg; cases hg; exact h2
    clear hSB1 hI1 hB1 hP y0 y1 y2 y3 y4 y5 y6 y7 y8 y9 b3a b3
    generalize w3.alloc (.cells #[.int .u64 (rr 0), .int .u64 (rr 1), .int .u64 (rr 2), .int .u64 (rr 3), .int .u64 (rr 4), .int .u64 (rr 5), .int .u64 (rr 6), .int .u64 (rr 7), .slice a' Z c3, .int .i64 want] 45) = W3 at *
    generalize w3.heap.size = Pt at *
    have hN := next_some (n := Z) (c := cap) (s := ⟨rr, P⟩) hlen.symm hnx hI3 (by omega) (hV.later hB3)
    obtain ⟨y0, y1, y2, y3, y4, y5, y6, y7, y8, y9⟩ := SCells.of hSB3
    unfold stV nextV insV at hN
    go_upto_region 16 with (go_at_call 19; refine hN.mono ?_; rintro e w4 ⟨rfl, b4⟩)
    have b4a := b4.alloc b4.size (.cells #[.int .i64 6, .int .i64 A, .int .i64 0, .int .i64 M] 32)
    have hX := C4.new w4 6 A 0 M 32
    have hSt4 := hSt.later b4a
    have hSB4 := hSB3.later b4a
    have hI4 := IsF.of (hI3.later b4a) hg
    have hB4 := past hB3 b4a
    have hltX : w.heap.size ≠ w4.heap.size := by have := hSB3.lt; have := b4.size; omega
    clear hSt hSB3 hI3 hB3 hN y0 y1 y2 y3 y4 y5 y6 y7 y8 y9 b4a b4
    generalize w4.alloc (.cells #[.int .i64 6, .int .i64 A, .int .i64 0, .int .i64 M] 32) = W4 at *
    generalize w4.heap.size = Px at *
    have y9 := (SCells.of hSB4).c9
    have yf := cells_frozen hSB4 9
    go_upto_region 17 with fail
    have hSB5 := hSB4.setPC (Z : Int)
    have hI5 := (hI4.set 9 (.int .i64 (Z : Int))).toL
    have hB5 := hB4.setCell (p := ⟨w.heap.size, 9, none⟩) (Nat.le_refl _) (.int .i64 (Z : Int))
    have hSt5 : SB (W4.setCell ⟨w.heap.size, 9, none⟩ (.int .i64 (Z : Int))) Pt ⟨rr, want⟩ a' Z c3 := (Below.heap_setCell _ _ _ _ (Ne.symm hlt3)).trans hSt4
    have hX5 : C4 (W4.setCell ⟨w.heap.size, 9, none⟩ (.int .i64 (Z : Int))) Px 6 A 0 M := by
      have e : ∀ i, (W4.setCell ⟨w.heap.size, 9, none⟩ (.int .i64 (Z : Int))).cell? ⟨Px, i, none⟩ = W4.cell? ⟨Px, i, none⟩ := fun i => World.cell?_of_block (a := ⟨Px, i, none⟩) (Below.heap_setCell _ _ _ _ (Ne.symm hltX))
      have f : ∀ i, (W4.setCell ⟨w.heap.size, 9, none⟩ (.int .i64 (Z : Int))).frozen? ⟨Px, i, none⟩ = W4.frozen? ⟨Px, i, none⟩ := fun i => World.frozen?_of_block (a := ⟨Px, i, none⟩) (Below.heap_setCell _ _ _ _ (Ne.symm hltX))
      exact ⟨(e 0).trans hX.c0, (e 1).trans hX.c1, (e 2).trans hX.c2, (e 3).trans hX.c3, fun i => (f i).trans (hX.fr i)⟩
    clear hSt4 hSB4 hI4 hB4 hX y9 yf
    generalize W4.setCell ⟨w.heap.size, 9, none⟩ (.int .i64 (Z : Int)) = W5 at *
    have hN := next_some (n := Z) (c := cap) (s := ⟨rr, Z⟩) hlen.symm hnn hI5 (by omega) (hV.later hB5)
    obtain ⟨y0, y1, y2, y3, y4, y5, y6, y7, y8, y9⟩ := SCells.of hSB5
    unfold stV nextV insV at hN
    go_upto_region 18 with (go_at_call 19; refine hN.mono ?_; rintro e w6 ⟨rfl, b6⟩)
    have b6a := b6.alloc b6.size (.cells #[.int .i64 0, .int .i64 0, .int .i64 0, .int .i64 0] 32)
    have hSt6 := hSt5.later b6a
    have hSB6 := hSB5.later b6a
    have hX6 := hX5.later b6a
    have hI6 := hI5.later b6a
    have hB6 := past hB5 b6a
    clear hSt5 hSB5 hX5 hI5 hB5 hN y0 y1 y2 y3 y4 y5 y6 y7 y8 y9 b6a b6
    generalize w6.alloc (.cells #[.int .i64 0, .int .i64 0, .int .i64 0, .int .i64 0] 32) = W6 at *
    have hP := plain_none (n := Z) (c := cap) (s := ⟨rr, Z⟩) hlen.symm hpn hI6 (by omega) (by show _ ≤ (Z : Int); omega) (hV.later hB6)
    obtain ⟨y0, y1, y2, y3, y4, y5, y6, y7, y8, y9⟩ := SCells.of hSB6
    unfold stV at hP
    go_upto_region 19 with (go_at_call 18; refine hP.mono ?_; rintro e w7 ⟨rfl, b7⟩)
    have hT : ∀ o, Below W6.heap.size W6 (w7.alloc o) := fun o => b7.alloc b7.size o
    generalize hW7 : w7.alloc _ = W7
    have b8 : Below W6.heap.size W6 W7 := by rw [← hW7]; exact hT _
    have hSt7 := hSt6.later b8
    have hSB7 := hSB6.later b8
    have hX7 := hX6.later b8
    have hI7 := hI6.later b8
    have hB7 := past hB6 b8
    clear hSt6 hSB6 hX6 hI6 hB6 hP y0 y1 y2 y3 y4 y5 y6 y7 y8 y9 b7 b8 hT hW7
    obtain ⟨g, rfl, hIR⟩ : ∃ g, aS = some ⟨g, 0, none⟩ ∧ IRow W7 g (List.replicate Z ⟨6, A, 0, M⟩) := by
      rcases hI7 with h | h
      · rw [h] at hlen; simp at hlen; omega
      · exact h
    have heq := eq8 (rr 0) (rr 1) (rr 2) (rr 3) (rr 4) (rr 5) (rr 6) (rr 7)
    have HS : ∀ wx, Below W7.heap.size W7 wx → wx.cell? ⟨w.heap.size, 0, none⟩ = some (.int .u64 (rr 0)) ∧ wx.cell? ⟨w.heap.size, 1, none⟩ = some (.int .u64 (rr 1)) ∧ wx.cell? ⟨w.heap.size, 2, none⟩ = some (.int .u64 (rr 2)) ∧ wx.cell? ⟨w.heap.size, 3, none⟩ = some (.int .u64 (rr 3)) ∧ wx.cell? ⟨w.heap.size, 4, none⟩ = some (.int .u64 (rr 4)) ∧ wx.cell? ⟨w.heap.size, 5, none⟩ = some (.int .u64 (rr 5)) ∧ wx.cell? ⟨w.heap.size, 6, none⟩ = some (.int .u64 (rr 6)) ∧ wx.cell? ⟨w.heap.size, 7, none⟩ = some (.int .u64 (rr 7)) ∧ wx.cell? ⟨w.heap.size, 8, none⟩ = some (.slice (some ⟨g, 0, none⟩) Z cap) ∧ wx.cell? ⟨Pt, 0, none⟩ = some (.int .u64 (rr 0)) ∧ wx.cell? ⟨Pt, 1, none⟩ = some (.int .u64 (rr 1)) ∧ wx.cell? ⟨Pt, 2, none⟩ = some (.int .u64 (rr 2)) ∧ wx.cell? ⟨Pt, 3, none⟩ = some (.int .u64 (rr 3)) ∧ wx.cell? ⟨Pt, 4, none⟩ = some (.int .u64 (rr 4)) ∧ wx.cell? ⟨Pt, 5, none⟩ = some (.int .u64 (rr 5)) ∧ wx.cell? ⟨Pt, 6, none⟩ = some (.int .u64 (rr 6)) ∧ wx.cell? ⟨Pt, 7, none⟩ = some (.int .u64 (rr 7)) ∧ wx.cell? ⟨Pt, 9, none⟩ = some (.int .i64 want) ∧ wx.cell? ⟨Px, 0, none⟩ = some (.int .i64 6) ∧ wx.cell? ⟨Px, 1, none⟩ = some (.int .i64 A) ∧ wx.cell? ⟨Px, 2, none⟩ = some (.int .i64 0) ∧ wx.cell? ⟨Px, 3, none⟩ = some (.int .i64 M) ∧ wx.cell? ⟨g, 0, none⟩ = some (.int .i64 6) ∧ wx.cell? ⟨g, 1, none⟩ = some (.int .i64 A) ∧ wx.cell? ⟨g, 2, none⟩ = some (.int .i64 0) ∧ wx.cell? ⟨g, 3, none⟩ = some (.int .i64 M) := fun wx bx => by
      obtain ⟨y0, y1, y2, y3, y4, y5, y6, y7, y8, y9⟩ := SCells.of (hSB7.later bx)
      obtain ⟨t0, t1, t2, t3, t4, t5, t6, t7, t8, t9⟩ := SCells.of (hSt7.later bx)
      obtain ⟨x0, x1, x2, x3, xf⟩ := hX7.later bx
      obtain ⟨c0, c1, c2, c3⟩ := (hIR.later bx).four (i := 0) (x := ⟨6, A, 0, M⟩) (by rw [List.getElem?_replicate, if_pos (by omega)])
      simp only [Nat.zero_mul, Nat.zero_add] at c0 c1 c2 c3
      exact ⟨y0, y1, y2, y3, y4, y5, y6, y7, y8, t0, t1, t2, t3, t4, t5, t6, t7, t9, x0, x1, x2, x3, c0, c1, c2, c3⟩
    have hd : Below W7.heap.size W7 W7.drew := (Below.refl _ W7).drew
    have hwk : Calls Tryd.prog 23 #[] W7.drew fun e w' => e = .returned (.bool true) ∧ Below W7.heap.size W7 w' := (wakes8 W7.drew (hV.later hB7.drew)).mono (fun e w' h => ⟨h.1, undrew h.2⟩)
    have hZ0 : (0 : Int) < (Z : Int) := by omega
    have hZn : 0 < Z := by omega
    have hZe : ¬ Z = 0 := by omega
    go_region_held3 (fun wx => wx.cell? ⟨w.heap.size, 0, none⟩ = some (.int .u64 (rr 0)) ∧ wx.cell? ⟨w.heap.size, 1, none⟩ = some (.int .u64 (rr 1)) ∧ wx.cell? ⟨w.heap.size, 2, none⟩ = some (.int .u64 (rr 2)) ∧ wx.cell? ⟨w.heap.size, 3, none⟩ = some (.int .u64 (rr 3)) ∧ wx.cell? ⟨w.heap.size, 4, none⟩ = some (.int .u64 (rr 4)) ∧ wx.cell? ⟨w.heap.size, 5, none⟩ = some (.int .u64 (rr 5)) ∧ wx.cell? ⟨w.heap.size, 6, none⟩ = some (.int .u64 (rr 6)) ∧ wx.cell? ⟨w.heap.size, 7, none⟩ = some (.int .u64 (rr 7)) ∧ wx.cell? ⟨w.heap.size, 8, none⟩ = some (.slice (some ⟨g, 0, none⟩) Z cap) ∧ wx.cell? ⟨Pt, 0, none⟩ = some (.int .u64 (rr 0)) ∧ wx.cell? ⟨Pt, 1, none⟩ = some (.int .u64 (rr 1)) ∧ wx.cell? ⟨Pt, 2, none⟩ = some (.int .u64 (rr 2)) ∧ wx.cell? ⟨Pt, 3, none⟩ = some (.int .u64 (rr 3)) ∧ wx.cell? ⟨Pt, 4, none⟩ = some (.int .u64 (rr 4)) ∧ wx.cell? ⟨Pt, 5, none⟩ = some (.int .u64 (rr 5)) ∧ wx.cell? ⟨Pt, 6, none⟩ = some (.int .u64 (rr 6)) ∧ wx.cell? ⟨Pt, 7, none⟩ = some (.int .u64 (rr 7)) ∧ wx.cell? ⟨Pt, 9, none⟩ = some (.int .i64 want) ∧ wx.cell? ⟨Px, 0, none⟩ = some (.int .i64 6) ∧ wx.cell? ⟨Px, 1, none⟩ = some (.int .i64 A) ∧ wx.cell? ⟨Px, 2, none⟩ = some (.int .i64 0) ∧ wx.cell? ⟨Px, 3, none⟩ = some (.int .i64 M) ∧ wx.cell? ⟨g, 0, none⟩ = some (.int .i64 6) ∧ wx.cell? ⟨g, 1, none⟩ = some (.int .i64 A) ∧ wx.cell? ⟨g, 2, none⟩ = some (.int .i64 0) ∧ wx.cell? ⟨g, 3, none⟩ = some (.int .i64 M)) (first | with_reducible exact HS _ hd | with_reducible exact HS _ (by assumption))
      (first | (go_at_call 23; with_reducible refine hwk.mono ?_; rintro e w9 ⟨rfl, b9⟩))
    all_goals go_wp2_with fail
    all_goals go_ret
    all_goals exact ⟨rfl, past hB7 b9⟩
end Go.Proofs.YtdhamejgdapdjaaDoor

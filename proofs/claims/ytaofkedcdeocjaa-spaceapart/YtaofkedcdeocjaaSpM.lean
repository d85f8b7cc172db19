/-
  A process's tables: Drop.
-/
import Derived.Test.YtaofkedcdeocjaaSpL
namespace Go.Proofs.Ytaofkedcdeocjaa
open Go.ChangeShapes Go.WideShapes Go.ChangeAt Go.RowKit

/-- A frame given back. -/
def giveP (a : (Nat → Int) × MS) (f : Int) : (Nat → Int) × MS := (rgive a.1 f, a.2.given a.1 f)
def giveL (R : Nat → Int) (s : MS) (l : List Int) : (Nat → Int) × MS := l.foldl giveP (R, s)
theorem giveL_snoc (R : Nat → Int) (s : MS) (l : List Int) (x : Int) : giveL R s (l ++ [x]) = giveP (giveL R s l) x := by unfold giveL; rw [List.foldl_append]; rfl
theorem rgive_le {R : Nat → Int} (h : ∀ j, R j ≤ 1000000) (f : Int) : ∀ j, rgive R f j ≤ 1000000 := by
  intro j
  unfold rgive
  split
  · unfold rset
    split
    · unfold rf; split
      · have := h f.toNat; omega
      · omega
    · exact h j
  · exact h j
theorem giveL_le {R : Nat → Int} (h : ∀ j, R j ≤ 1000000) (s : MS) (l : List Int) : ∀ j, (giveL R s l).1 j ≤ 1000000 := by
  have : ∀ (l : List Int) (a : (Nat → Int) × MS), (∀ j, a.1 j ≤ 1000000) → ∀ j, (l.foldl giveP a).1 j ≤ 1000000 := by
    intro l
    induction l with
    | nil => intro a ha; exact ha
    | cons x l ih => intro a ha; exact ih _ (rgive_le ha x)
  exact this l (R, s) h
theorem rf_le' {R : Nat → Int} (h : ∀ j, R j ≤ 1000000) (f : Int) : rf R f < 9223372036854775807 := by
  unfold rf; split
  · have := h f.toNat; omega
  · omega

set_option maxRecDepth 20000 in
set_option maxHeartbeats 2000000 in
theorem drop_any {w : World} {q p b c : Nat} {S : SS} {R : Nat → Int} {s : MS} (h : Sys w q p b c S R s) (hR : ∀ j, R j ≤ 1000000) :
    Calls Try.prog 17 #[.pointer (some ⟨q, 0, none⟩)] w fun e w' => e = .returned (.tuple #[]) ∧ Sys w' q p b c ⟨S.own, 0, 0, fun _ => 0, fun _ => 0⟩ (giveL R s S.stab).1 (giveL R s S.stab).2 ∧ Touch (fun x => x = q ∨ x = p ∨ x = c) w w' := by
  have hTb := tables_any h.sp
  have hsl := stab_len S
  go_enter Try.func17, Try.ntmps17
  go_upto_block 0 with (go_at_call 16; refine hTb.mono ?_; rintro e w1 ⟨a1, c1, rfl, hC, b1⟩)
  clear hTb
  have t1 : Touch Nil w w1 := Touch.ofBelow b1
  have h1 := h.nil t1
  have hpw : p < w.heap.size := h.po.row.lt
  have hcw : c < w.heap.size := h.me.row.lt
  have hqw : q < w.heap.size := h.sp.lt
  obtain ⟨L, hL⟩ : ∃ L, Hid (S.stab = L) := ⟨_, rfl⟩
  rw [hL.out] at hC hsl
  rw [← hsl]
  have hLl : L.length ≤ 100 := by rw [hsl]; have := ta_len S 4; rw [tabs_ta]; omega
  clear b1 hsl
  go_cut [7] (fun _ wx => Sys wx q p b c S (giveL R s L).1 (giveL R s L).2 ∧ Touch (fun x => x = p ∨ x = c) w1 wx)
  case first =>
    go_wp2_with fail
    go_loopg [7] L.length (fun g i wr => ∃ k : Nat, g + k = L.length ∧ i = .int .i64 k ∧ Sys wr q p b c S (giveL R s (L.take k)).1 (giveL R s (L.take k)).2 ∧ Touch (fun x => x = p ∨ x = c) w1 wr)
    case atStart => exact ⟨0, by omega, rfl, h1, Touch.refl _ _⟩
    case round =>
      obtain ⟨k, hg, rfl, hk, tk⟩ := hrel
      by_cases hlt : k < L.length
      · have k1 : (k : Int) < (L.length : Int) := by omega
        rcases hC with hC | ⟨g, rfl, hgb, hgl, hcs⟩
        · subst hC; simp at hlt
        have cc : wr.cell? ⟨g, k, none⟩ = some (.int .i64 (L.getD k 0)) := by
          have := hcs k hlt
          unfold World.cell? at this ⊢
          rw [tk.block g hgl (by omega)]; exact this
        have hts := take_snocI hlt
        have hle := giveL_le hR s (L.take k)
        have hG := pgive_any hk.po hk.me (L.getD k 0) (rf_le' hle _)
        have e : giveP (giveL R s (L.take k)) (L.getD k 0) = giveL R s (L.take (k + 1)) := by rw [hts, giveL_snoc]
        have e1 : Hid (rgive (giveL R s (L.take k)).1 (L.getD k 0) = (giveL R s (L.take (k + 1))).1) := by show _ = _; rw [← e]; rfl
        have e2 : Hid ((giveL R s (L.take k)).2.given (giveL R s (L.take k)).1 (L.getD k 0) = (giveL R s (L.take (k + 1))).2) := by show _ = _; rw [← e]; rfl
        rw [e1.out, e2.out] at hG
        obtain ⟨fr, hfr⟩ : ∃ fr, Hid (L.getD k 0 = fr) := ⟨_, rfl⟩
        rw [hfr.out] at cc hG
        have cp := hk.sp.poolC
        clear hts e hcs
        go_wp2_with (go_at_call 62; refine hG.mono ?_; rintro e w2 ⟨rfl, p2, m2, t2⟩)
        go_roundg (L.length - (k + 1))
        case measure => omega
        case rel => exact ⟨k + 1, by omega, by go_num, ⟨hk.sp.touch t2 (by rintro (e | e); exact hk.qp e; exact hk.qc e), p2, m2⟩, tk.trans t2⟩
      · have k1 : ¬ ((k : Int) < (L.length : Int)) := by omega
        obtain rfl : k = L.length := by omega
        rw [List.take_length] at hk
        go_wp2_with fail
        go_meet
        exact ⟨hk, tk⟩
  case rest =>
    obtain ⟨h2, t2⟩ := hcut
    have T2 : Touch (fun x => x = q ∨ x = p ∨ x = c) w wc := (t1.mono (fun _ _ h => h.elim)).trans (t2.mono (fun x _ e => Or.inr e))
    clear h1 t1 t2 hC
    have c3 := h2.sp.kernC
    have z3 := h2.sp.frozen 3
    have c4 := h2.sp.userC
    have z4 := h2.sp.frozen 4
    go_upto_region 6 with fail
    have h3 := (h2.kern 0).user 0
    have t3 := T2.trans ((((h2.kernT 0).trans ((h2.kern 0).userT 0))).mono (fun x _ e => Or.inl e))
    clear c3 z3 c4 z4 h2 T2
    generalize (wc.setCell ⟨q, 3, none⟩ (.int .i64 0)).setCell ⟨q, 4, none⟩ (.int .i64 0) = W3 at *
    have hi4 : (Try.prog.info? 103).map (·.size) = some (upL ⟨fun _ => 0, fun _ => 0⟩).toArray.size := by show _ = some 4; kernel_rfl
    have hi32 : (Try.prog.info? 105).map (·.size) = some (laL ⟨fun _ => 0, fun _ => 0⟩).toArray.size := by show _ = some 32; kernel_rfl
    go_upto_region 7 with (refine wpList_store_mid rfl 103 _ _ rfl q 5 (upL ⟨fun _ => 0, fun _ => 0⟩).toArray rfl (by kernel_rfl) (there_of_row h3.sp.row 5 4 (by omega)) hi4 (up_one _) ?_)
    have ts4 : Touch (· = q) W3 (W3.setCells q 5 (upL ⟨fun _ => 0, fun _ => 0⟩)) := (Touch.refl (· = q) W3).setCells rfl _ _
    have sp4 : SpAt (W3.setCells q 5 (upL ⟨fun _ => 0, fun _ => 0⟩)) q b p ⟨S.own, 0, 0, fun _ => 0, S.la⟩ := by
      refine ⟨(rowIs_setCells (upL ⟨fun _ => 0, fun _ => 0⟩) 5 W3 _ h3.sp.row).congr fun i hi => ?_⟩
      by_cases e : 5 ≤ i
      · rw [if_pos e]
        have a0 : i ≠ 0 := by omega
        have a1 : i ≠ 1 := by omega
        have a2 : i ≠ 2 := by omega
        have a3 : i ≠ 3 := by omega
        have a4 : i ≠ 4 := by omega
        by_cases e2 : i < 9
        · rw [upL_at _ (by omega)]
          simp only [SS.cell, a0, a1, a2, a3, a4, e2, if_false, if_true]; rfl
        · rw [List.getElem?_eq_none (by rw [upL_len]; omega)]
          simp only [SS.cell, a0, a1, a2, a3, a4, e2, if_false]; rfl
      · rw [if_neg e]
        unfold SS.cell
        repeat (split <;> try rfl)
        all_goals omega
    have h4 : Sys (W3.setCells q 5 (upL ⟨fun _ => 0, fun _ => 0⟩)) q p b c ⟨S.own, 0, 0, fun _ => 0, S.la⟩ (giveL R s L).1 (giveL R s L).2 := ⟨sp4, h3.po.touch ts4 (fun e => h3.qp e.symm), h3.me.touch ts4 (fun e => h3.qb e.symm) (fun e => h3.qc e.symm)⟩
    have t4 := t3.trans (ts4.mono (fun x _ e => Or.inl e))
    clear sp4 ts4
    generalize W3.setCells q 5 (upL ⟨fun _ => 0, fun _ => 0⟩) = W4 at *
    go_wp2_with (refine wpList_store_mid rfl 105 _ _ rfl q 9 (laL ⟨fun _ => 0, fun _ => 0⟩).toArray rfl (by kernel_rfl) (there_of_row h4.sp.row 9 32 (by omega)) hi32 (la_one _) ?_)
    go_end0
    have ts5 : Touch (· = q) W4 (W4.setCells q 9 (laL ⟨fun _ => 0, fun _ => 0⟩)) := (Touch.refl (· = q) W4).setCells rfl _ _
    have sp5 : SpAt (W4.setCells q 9 (laL ⟨fun _ => 0, fun _ => 0⟩)) q b p ⟨S.own, 0, 0, fun _ => 0, fun _ => 0⟩ := by
      refine ⟨(rowIs_setCells (laL ⟨fun _ => 0, fun _ => 0⟩) 9 W4 _ h4.sp.row).congr fun i hi => ?_⟩
      by_cases e : 9 ≤ i
      · rw [if_pos e]
        have a0 : i ≠ 0 := by omega
        have a1 : i ≠ 1 := by omega
        have a2 : i ≠ 2 := by omega
        have a3 : i ≠ 3 := by omega
        have a4 : i ≠ 4 := by omega
        have e2 : ¬ i < 9 := by omega
        rw [laL_at _ (by omega)]
        simp only [SS.cell, a0, a1, a2, a3, a4, e2, if_false]; rfl
      · rw [if_neg e]
        unfold SS.cell
        repeat (split <;> try rfl)
        all_goals omega
    rw [hL.out]
    exact ⟨rfl, ⟨sp5, h4.po.touch ts5 (fun e => h4.qp e.symm), h4.me.touch ts5 (fun e => h4.qb e.symm) (fun e => h4.qc e.symm)⟩, t4.trans (ts5.mono (fun x _ e => Or.inl e))⟩
end Go.Proofs.Ytaofkedcdeocjaa

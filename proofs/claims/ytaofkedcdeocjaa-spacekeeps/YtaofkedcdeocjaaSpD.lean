/-
  A process's tables: Set.
-/
import Derived.Test.YtaofkedcdeocjaaSpC
namespace Go.Proofs.Ytaofkedcdeocjaa
open Go.ChangeShapes Go.WideShapes Go.ChangeAt Go.RowKit

/-- A space with what is beneath it. -/
abbrev YAt (w : World) (q p b c : Nat) (y : YS) : Prop := Sys w q p b c y.S y.R y.s

theorem may_up {y : YS} {page : Int} (h : y.may page = true) : y.S.up (page / 64).toNat = 0 → 1 ≤ y.s.left := fun hu => by
  simp only [YS.may, Bool.and_eq_true, decide_eq_true_eq] at h
  have := need_is h.1
  rw [if_pos hu] at this
  omega
theorem roots_left (s : MS) (S : SS) (i f : Int) : (s.roots S i f).left = s.left := by unfold MS.roots; rw [write_left, write_left]
theorem roots_n (s : MS) (S : SS) (i f : Int) : (s.roots S i f).n = s.n := by unfold MS.roots; rw [MS.write_n, MS.write_n]
theorem up1_n (y : YS) (i : Nat) : (y.up1 i).s.n = y.s.n := by
  unfold YS.up1; split
  · rw [roots_n, MS.mark_n]
  · rfl
theorem up1_la (y : YS) (i k : Nat) : (y.up1 i).S.la k = y.S.la k := by unfold YS.up1; split <;> rfl
theorem may_la {y : YS} {page : Int} (h : y.may page = true) : (y.up1 (page / 64).toNat).S.la ((page / 64).toNat * 8 + (page / 8 % 8).toNat) = 0 → 1 ≤ (y.up1 (page / 64).toNat).s.left := fun hu => by
  rw [up1_la] at hu
  have hup := may_up h
  simp only [YS.may, Bool.and_eq_true, decide_eq_true_eq] at h
  have := need_is h.1
  rw [if_pos hu] at this
  unfold YS.up1
  split
  · rename_i h0
    rw [if_pos h0] at this
    rw [roots_left]
    have := mark_left (least_left (hup h0)) y.S.own
    omega
  · omega

set_option maxRecDepth 20000 in
set_option maxHeartbeats 4000000 in
theorem set_any {w : World} {q p b c : Nat} {y : YS} (h : YAt w q p b c y) (ok : y.S.ok) (page x : Int) :
    Calls Try.prog 15 #[.pointer (some ⟨q, 0, none⟩), .int .i64 page, .int .u64 x] w fun e w' => e = .returned (.bool (y.may page)) ∧ YAt w' q p b c (if y.may page = true then y.set page x else y) ∧ Touch (fun x => x = q ∨ x = p ∨ x = c) w w' := by
  obtain ⟨m, hm⟩ : ∃ m, Hid (y.may page = m) := ⟨_, rfl⟩
  rw [hm.out]
  go_enter Try.func15, Try.ntmps15
  go_upto_region 1 with fail
  go_cut [24] (fun v wx => v = .bool (!m) ∧ Touch Nil w wx)
  case first =>
    cases hp : y.S.hasP page
    · have hmay : Hid (m = false) := by show _ = _; rw [← hm.out]; unfold YS.may; rw [hp]; rfl
      refine wp_region_held_drew (S := fun wx => wx.cell? ⟨q, 1, none⟩ = some (.pointer (some ⟨p, 0, none⟩))) (by kernel_rfl) h.drew.sp.poolC (fun hHeld => ?_)
      refine wpAnyH_take (i := 0) (oi := { dst := some 9, op := _, type := _, pos := _, after := _, guard := _ }) (v := ?_) rfl (by kernel_rfl) (by kernel_rfl) (by kernel_rfl) (fun _ _ _ h => h) (Or.inl ⟨by rfl, ?_⟩) (by assumption) ?_
      rotate_left
      · intro wz hSw; (try dsimp only at hSw); go_simp; try with_reducible rfl
      (try simp only [Act.put]); (try simp only [List.setIfInBounds_toArray]); (try simp only [List.set_cons_succ]); (try simp only [List.set_cons_zero])
      refine wpAnyH_take (i := 1) (oi := { dst := some 10, op := _, type := _, pos := _, after := _, guard := _ }) (v := ?_) rfl (by kernel_rfl) (by kernel_rfl) (by kernel_rfl) (fun _ _ _ h => h) (Or.inl ⟨by rfl, ?_⟩) (by assumption) ?_
      rotate_left
      · intro wz hSw; (try dsimp only at hSw); go_simp; try with_reducible rfl
      (try simp only [Act.put]); (try simp only [List.setIfInBounds_toArray]); (try simp only [List.set_cons_succ]); (try simp only [List.set_cons_zero])
      have hb : Touch Nil w w.drew := (Touch.refl Nil w).drew
      have hcp : ∀ wx, Touch Nil w wx → wx.cell? ⟨q, 1, none⟩ = some (.pointer (some ⟨p, 0, none⟩)) := fun wx tx => (h.sp.touch tx (fun h => h)).poolC
      refine wpAnyH_ready (rs := [2]) (by kernel_rfl) (by simp) ?_
      refine AllReadyH.cons (o := { dst := some 11, op := _, type := _, pos := _, after := _, guard := _ }) rfl (fun K hK => ?_) AllReadyH.nil
      go_simp
      refine (shas_any h.drew.sp page).mono ?_
      rintro e wq ⟨rfl, rfl⟩
      rw [hp]
      try dsimp only
      refine hK.out _ _ (hcp _ hb) (fun hHeld => ?_)
      clear hK K
      (try simp only [Act.put]); (try simp only [List.setIfInBounds_toArray]); (try simp only [List.set_cons_succ]); (try simp only [List.set_cons_zero])
      refine wpAnyH_take (i := 3) (oi := { dst := some 12, op := _, type := _, pos := _, after := _, guard := _ }) (v := ?_) rfl (by kernel_rfl) (by kernel_rfl) (by kernel_rfl) (fun _ _ _ h => h) (Or.inl ⟨by rfl, ?_⟩) (by assumption) ?_
      rotate_left
      · intro wz hSw; (try dsimp only at hSw); go_simp; try with_reducible rfl
      (try simp only [Act.put]); (try simp only [List.setIfInBounds_toArray]); (try simp only [List.set_cons_succ]); (try simp only [List.set_cons_zero])
      refine wpAnyH_take (i := 4) (oi := { dst := some 13, op := _, type := _, pos := _, after := _, guard := _ }) (v := ?_) rfl (by kernel_rfl) (by kernel_rfl) (by kernel_rfl) (fun _ _ _ h => h) (Or.inl ⟨by rfl, ?_⟩) (by assumption) ?_
      rotate_left
      · intro wz hSw; (try dsimp only at hSw); go_simp; try with_reducible rfl
      (try simp only [Act.put]); (try simp only [List.setIfInBounds_toArray]); (try simp only [List.set_cons_succ]); (try simp only [List.set_cons_zero])
      refine wpAnyH_take (i := 5) (oi := { dst := some 14, op := _, type := _, pos := _, after := _, guard := _ }) (v := undef) rfl (by kernel_rfl) (by kernel_rfl) (by kernel_rfl) (fun _ _ _ h => h) (Or.inr ⟨by kernel_rfl, rfl⟩) (by assumption) ?_
      (try simp only [Act.put]); (try simp only [List.setIfInBounds_toArray]); (try simp only [List.set_cons_succ]); (try simp only [List.set_cons_zero])
      refine wpAnyH_take (i := 6) (oi := { dst := some 15, op := _, type := _, pos := _, after := _, guard := _ }) (v := undef) rfl (by kernel_rfl) (by kernel_rfl) (by kernel_rfl) (fun _ _ _ h => h) (Or.inr ⟨by kernel_rfl, rfl⟩) (by assumption) ?_
      (try simp only [Act.put]); (try simp only [List.setIfInBounds_toArray]); (try simp only [List.set_cons_succ]); (try simp only [List.set_cons_zero])
      refine wpAnyH_take (i := 7) (oi := { dst := some 16, op := _, type := _, pos := _, after := _, guard := _ }) (v := undef) rfl (by kernel_rfl) (by kernel_rfl) (by kernel_rfl) (fun _ _ _ h => h) (Or.inr ⟨by kernel_rfl, rfl⟩) (by assumption) ?_
      (try simp only [Act.put]); (try simp only [List.setIfInBounds_toArray]); (try simp only [List.set_cons_succ]); (try simp only [List.set_cons_zero])
      refine wpAnyH_take (i := 8) (oi := { dst := some 17, op := _, type := _, pos := _, after := _, guard := _ }) (v := undef) rfl (by kernel_rfl) (by kernel_rfl) (by kernel_rfl) (fun _ _ _ h => h) (Or.inr ⟨by kernel_rfl, rfl⟩) (by assumption) ?_
      (try simp only [Act.put]); (try simp only [List.setIfInBounds_toArray]); (try simp only [List.set_cons_succ]); (try simp only [List.set_cons_zero])
      refine wpAnyH_take (i := 9) (oi := { dst := some 18, op := _, type := _, pos := _, after := _, guard := _ }) (v := undef) rfl (by kernel_rfl) (by kernel_rfl) (by kernel_rfl) (fun _ _ _ h => h) (Or.inr ⟨by kernel_rfl, rfl⟩) (by assumption) ?_
      (try simp only [Act.put]); (try simp only [List.setIfInBounds_toArray]); (try simp only [List.set_cons_succ]); (try simp only [List.set_cons_zero])
      refine wpAnyH_take (i := 10) (oi := { dst := some 19, op := _, type := _, pos := _, after := _, guard := _ }) (v := undef) rfl (by kernel_rfl) (by kernel_rfl) (by kernel_rfl) (fun _ _ _ h => h) (Or.inr ⟨by kernel_rfl, rfl⟩) (by assumption) ?_
      (try simp only [Act.put]); (try simp only [List.setIfInBounds_toArray]); (try simp only [List.set_cons_succ]); (try simp only [List.set_cons_zero])
      refine wpAnyH_take (i := 11) (oi := { dst := some 20, op := _, type := _, pos := _, after := _, guard := _ }) (v := undef) rfl (by kernel_rfl) (by kernel_rfl) (by kernel_rfl) (fun _ _ _ h => h) (Or.inr ⟨by kernel_rfl, rfl⟩) (by assumption) ?_
      (try simp only [Act.put]); (try simp only [List.setIfInBounds_toArray]); (try simp only [List.set_cons_succ]); (try simp only [List.set_cons_zero])
      refine wpAnyH_take (i := 12) (oi := { dst := some 21, op := _, type := _, pos := _, after := _, guard := _ }) (v := undef) rfl (by kernel_rfl) (by kernel_rfl) (by kernel_rfl) (fun _ _ _ h => h) (Or.inr ⟨by kernel_rfl, rfl⟩) (by assumption) ?_
      (try simp only [Act.put]); (try simp only [List.setIfInBounds_toArray]); (try simp only [List.set_cons_succ]); (try simp only [List.set_cons_zero])
      refine wpAnyH_take (i := 13) (oi := { dst := some 22, op := _, type := _, pos := _, after := _, guard := _ }) (v := undef) rfl (by kernel_rfl) (by kernel_rfl) (by kernel_rfl) (fun _ _ _ h => h) (Or.inr ⟨by kernel_rfl, rfl⟩) (by assumption) ?_
      (try simp only [Act.put]); (try simp only [List.setIfInBounds_toArray]); (try simp only [List.set_cons_succ]); (try simp only [List.set_cons_zero])
      refine wpAnyH_take (i := 14) (oi := { dst := some 23, op := _, type := _, pos := _, after := _, guard := _ }) (v := undef) rfl (by kernel_rfl) (by kernel_rfl) (by kernel_rfl) (fun _ _ _ h => h) (Or.inr ⟨by kernel_rfl, rfl⟩) (by assumption) ?_
      (try simp only [Act.put]); (try simp only [List.setIfInBounds_toArray]); (try simp only [List.set_cons_succ]); (try simp only [List.set_cons_zero])
      refine wpAnyH_take (i := 15) (oi := { dst := some 24, op := _, type := _, pos := _, after := _, guard := _ }) (v := ?_) rfl (by kernel_rfl) (by kernel_rfl) (by kernel_rfl) (fun _ _ _ h => h) (Or.inl ⟨by rfl, ?_⟩) (by assumption) ?_
      rotate_left
      · intro wz hSw; (try dsimp only at hSw); go_simp; try with_reducible rfl
      (try simp only [Act.put]); (try simp only [List.setIfInBounds_toArray]); (try simp only [List.set_cons_succ]); (try simp only [List.set_cons_zero])
      refine wpAnyH_done (by kernel_rfl) ?_ _
      go_wp2_with fail
      go_meet
      exact ⟨by rw [hmay.out]; rfl, hb⟩
    · have hmay : Hid (m = decide (y.S.need [page] ≤ y.s.left)) := by show _ = _; rw [← hm.out]; unfold YS.may; rw [hp]; rfl
      have hdec : Hid (decide (y.s.left < y.S.need [page]) = !(decide (y.S.need [page] ≤ y.s.left))) := by
        show _ = _
        by_cases hh : y.S.need [page] ≤ y.s.left
        · rw [decide_eq_true hh, decide_eq_false (by omega)]; rfl
        · rw [decide_eq_false hh, decide_eq_true (by omega)]; rfl
      refine wp_region_held_drew (S := fun wx => wx.cell? ⟨q, 1, none⟩ = some (.pointer (some ⟨p, 0, none⟩))) (by kernel_rfl) h.drew.sp.poolC (fun hHeld => ?_)
      refine wpAnyH_take (i := 0) (oi := { dst := some 9, op := _, type := _, pos := _, after := _, guard := _ }) (v := ?_) rfl (by kernel_rfl) (by kernel_rfl) (by kernel_rfl) (fun _ _ _ h => h) (Or.inl ⟨by rfl, ?_⟩) (by assumption) ?_
      rotate_left
      · intro wz hSw; (try dsimp only at hSw); go_simp; try with_reducible rfl
      (try simp only [Act.put]); (try simp only [List.setIfInBounds_toArray]); (try simp only [List.set_cons_succ]); (try simp only [List.set_cons_zero])
      refine wpAnyH_take (i := 1) (oi := { dst := some 10, op := _, type := _, pos := _, after := _, guard := _ }) (v := ?_) rfl (by kernel_rfl) (by kernel_rfl) (by kernel_rfl) (fun _ _ _ h => h) (Or.inl ⟨by rfl, ?_⟩) (by assumption) ?_
      rotate_left
      · intro wz hSw; (try dsimp only at hSw); go_simp; try with_reducible rfl
      (try simp only [Act.put]); (try simp only [List.setIfInBounds_toArray]); (try simp only [List.set_cons_succ]); (try simp only [List.set_cons_zero])
      have hb : Touch Nil w w.drew := (Touch.refl Nil w).drew
      have hcp : ∀ wx, Touch Nil w wx → wx.cell? ⟨q, 1, none⟩ = some (.pointer (some ⟨p, 0, none⟩)) := fun wx tx => (h.sp.touch tx (fun h => h)).poolC
      refine wpAnyH_ready (rs := [2]) (by kernel_rfl) (by simp) ?_
      refine AllReadyH.cons (o := { dst := some 11, op := _, type := _, pos := _, after := _, guard := _ }) rfl (fun K hK => ?_) AllReadyH.nil
      go_simp
      refine (shas_any h.drew.sp page).mono ?_
      rintro e wq ⟨rfl, rfl⟩
      rw [hp]
      try dsimp only
      refine hK.out _ _ (hcp _ hb) (fun hHeld => ?_)
      clear hK K
      (try simp only [Act.put]); (try simp only [List.setIfInBounds_toArray]); (try simp only [List.set_cons_succ]); (try simp only [List.set_cons_zero])
      refine wpAnyH_take (i := 3) (oi := { dst := some 12, op := _, type := _, pos := _, after := _, guard := _ }) (v := ?_) rfl (by kernel_rfl) (by kernel_rfl) (by kernel_rfl) (fun _ _ _ h => h) (Or.inl ⟨by rfl, ?_⟩) (by assumption) ?_
      rotate_left
      · intro wz hSw; (try dsimp only at hSw); go_simp; try with_reducible rfl
      (try simp only [Act.put]); (try simp only [List.setIfInBounds_toArray]); (try simp only [List.set_cons_succ]); (try simp only [List.set_cons_zero])
      refine wpAnyH_take (i := 4) (oi := { dst := some 13, op := _, type := _, pos := _, after := _, guard := _ }) (v := ?_) rfl (by kernel_rfl) (by kernel_rfl) (by kernel_rfl) (fun _ _ _ h => h) (Or.inl ⟨by rfl, ?_⟩) (by assumption) ?_
      rotate_left
      · intro wz hSw; (try dsimp only at hSw); go_simp; try with_reducible rfl
      (try simp only [Act.put]); (try simp only [List.setIfInBounds_toArray]); (try simp only [List.set_cons_succ]); (try simp only [List.set_cons_zero])
      refine wpAnyH_take (i := 5) (oi := { dst := some 14, op := _, type := _, pos := _, after := _, guard := _ }) (v := ?_) rfl (by kernel_rfl) (by kernel_rfl) (by kernel_rfl) (fun _ _ _ h => h) (Or.inl ⟨by rfl, ?_⟩) (by assumption) ?_
      rotate_left
      · intro wz hSw; (try dsimp only at hSw); go_simp; try with_reducible rfl
      (try simp only [Act.put]); (try simp only [List.setIfInBounds_toArray]); (try simp only [List.set_cons_succ]); (try simp only [List.set_cons_zero])
      refine wpAnyH_take (i := 6) (oi := { dst := some 15, op := _, type := _, pos := _, after := _, guard := _ }) (v := ?_) rfl (by kernel_rfl) (by kernel_rfl) (by kernel_rfl) (fun _ _ _ h => h) (Or.inl ⟨by rfl, ?_⟩) (by assumption) ?_
      rotate_left
      · intro wz hSw; (try dsimp only at hSw); go_simp; try with_reducible rfl
      (try simp only [Act.put]); (try simp only [List.setIfInBounds_toArray]); (try simp only [List.set_cons_succ]); (try simp only [List.set_cons_zero])
      refine wpAnyH_take (i := 9) (oi := { dst := some 18, op := _, type := _, pos := _, after := _, guard := _ }) (v := ?_) rfl (by kernel_rfl) (by kernel_rfl) (by kernel_rfl) (fun _ _ _ h => h) (Or.inl ⟨by rfl, ?_⟩) (by assumption) ?_
      rotate_left
      · intro wz hSw; (try dsimp only at hSw); go_simp; try with_reducible rfl
      (try simp only [Act.put]); (try simp only [List.setIfInBounds_toArray]); (try simp only [List.set_cons_succ]); (try simp only [List.set_cons_zero])
      refine wpAnyH_take (i := 10) (oi := { dst := some 19, op := _, type := _, pos := _, after := _, guard := _ }) (v := ?_) rfl (by kernel_rfl) (by kernel_rfl) (by kernel_rfl) (fun _ _ _ h => h) (Or.inl ⟨by rfl, ?_⟩) (by assumption) ?_
      rotate_left
      · intro wz hSw; (try dsimp only at hSw); go_simp; try with_reducible rfl
      (try simp only [Act.put]); (try simp only [List.setIfInBounds_toArray]); (try simp only [List.set_cons_succ]); (try simp only [List.set_cons_zero])
      refine wpAnyH_take (i := 11) (oi := { dst := some 20, op := _, type := _, pos := _, after := _, guard := _ }) (v := ?_) rfl (by kernel_rfl) (by kernel_rfl) (by kernel_rfl) (fun _ _ _ h => h) (Or.inl ⟨by rfl, ?_⟩) (by assumption) ?_
      rotate_left
      · intro wz hSw; (try dsimp only at hSw); go_simp; try with_reducible rfl
      (try simp only [Act.put]); (try simp only [List.setIfInBounds_toArray]); (try simp only [List.set_cons_succ]); (try simp only [List.set_cons_zero])
      refine wpAnyH_take (i := 12) (oi := { dst := some 21, op := _, type := _, pos := _, after := _, guard := _ }) (v := ?_) rfl (by kernel_rfl) (by kernel_rfl) (by kernel_rfl) (fun _ _ _ h => h) (Or.inl ⟨by rfl, ?_⟩) (by assumption) ?_
      rotate_left
      · intro wz hSw; (try dsimp only at hSw); go_simp; try with_reducible rfl
      (try simp only [Act.put]); (try simp only [List.setIfInBounds_toArray]); (try simp only [List.set_cons_succ]); (try simp only [List.set_cons_zero])
      have hN := need_one h.drew.sp page
      have h0d := h.drew
      generalize w.drew = W0 at *
      refine wpAnyH_ready (rs := [7]) (by kernel_rfl) (by simp) ?_
      refine AllReadyH.cons (o := { dst := some 16, op := _, type := _, pos := _, after := _, guard := _ }) rfl (fun K hK => ?_) AllReadyH.nil
      go_simp
      refine hK.out _ _ (hcp _ (hb.alloc _)) (fun hHeld => ?_)
      clear hK K
      (try simp only [Act.put]); (try simp only [List.setIfInBounds_toArray]); (try simp only [List.set_cons_succ]); (try simp only [List.set_cons_zero])
      refine wpAnyH_ready (rs := [8]) (by kernel_rfl) (by simp) ?_
      refine AllReadyH.cons (o := { dst := some 17, op := _, type := _, pos := _, after := _, guard := _ }) rfl (fun K hK => ?_) AllReadyH.nil
      go_simp
      with_reducible refine hN.mono ?_
      rintro e w1 ⟨rfl, t1⟩
      try dsimp only
      have tt := hb.trans t1
      have h1 := h0d.nil t1
      refine hK.out _ _ (hcp _ tt) (fun hHeld => ?_)
      clear hK K
      (try simp only [Act.put]); (try simp only [List.setIfInBounds_toArray]); (try simp only [List.set_cons_succ]); (try simp only [List.set_cons_zero])
      refine wpAnyH_ready (rs := [13]) (by kernel_rfl) (by simp) ?_
      refine AllReadyH.cons (o := { dst := some 22, op := _, type := _, pos := _, after := _, guard := _ }) rfl (fun K hK => ?_) AllReadyH.nil
      go_simp
      refine (pleft_any h1.po h1.me).mono ?_
      rintro e wq ⟨rfl, rfl⟩
      try dsimp only
      refine hK.out _ _ (hcp _ tt) (fun hHeld => ?_)
      clear hK K
      (try simp only [Act.put]); (try simp only [List.setIfInBounds_toArray]); (try simp only [List.set_cons_succ]); (try simp only [List.set_cons_zero])
      refine wpAnyH_take (i := 14) (oi := { dst := some 23, op := _, type := _, pos := _, after := _, guard := _ }) (v := ?_) rfl (by kernel_rfl) (by kernel_rfl) (by kernel_rfl) (fun _ _ _ h => h) (Or.inl ⟨by rfl, ?_⟩) (by assumption) ?_
      rotate_left
      · intro wz hSw; (try dsimp only at hSw); go_simp; try with_reducible rfl
      (try simp only [Act.put]); (try simp only [List.setIfInBounds_toArray]); (try simp only [List.set_cons_succ]); (try simp only [List.set_cons_zero])
      refine wpAnyH_take (i := 15) (oi := { dst := some 24, op := _, type := _, pos := _, after := _, guard := _ }) (v := ?_) rfl (by kernel_rfl) (by kernel_rfl) (by kernel_rfl) (fun _ _ _ h => h) (Or.inl ⟨by rfl, ?_⟩) (by assumption) ?_
      rotate_left
      · intro wz hSw; (try dsimp only at hSw); go_simp; try with_reducible rfl
      (try simp only [Act.put]); (try simp only [List.setIfInBounds_toArray]); (try simp only [List.set_cons_succ]); (try simp only [List.set_cons_zero])
      refine wpAnyH_done (by kernel_rfl) ?_ _
      go_wp2_with fail
      go_meet
      exact ⟨by rw [hmay.out, ← hdec.out], tt⟩
  case rest =>
    obtain ⟨rfl, tn⟩ := hcut
    have h1 := h.nil tn
    have t1 : Touch (fun x => x = q ∨ x = p ∨ x = c) w wc := tn.mono (fun _ _ h => h.elim)
    cases m with
    | false =>
      go_wp2
      go_ret
      exact ⟨rfl, h1, t1⟩
    | true =>
      have hmt := hm.out
      have hup := may_up hmt
      have hla := may_la hmt
      obtain ⟨hk0, h0, h256⟩ := (hasP_iff y.S page).1 (by simp only [YS.may, Bool.and_eq_true] at hmt; exact hmt.1)
      have hI0 := fun wx => windex_any page 0 wx
      have hI1 := fun wx => windex_any page 1 wx
      rw [pidx0 h0 (by omega)] at hI0
      rw [pidx1 h0 (by omega)] at hI1
      have hset : Hid (y.set page x = ⟨((y.up1 (page / 64).toNat).la1 (page / 64).toNat (page / 8 % 8).toNat).S, ((y.up1 (page / 64).toNat).la1 (page / 64).toNat (page / 8 % 8).toNat).R, ((y.up1 (page / 64).toNat).la1 (page / 64).toNat (page / 8 % 8).toNat).s.write (((y.up1 (page / 64).toNat).la1 (page / 64).toNat (page / 8 % 8).toNat).S.pl page) x⟩) := rfl
      have i1 : page / 64 < 4 := by omega
      have j1 : page / 8 % 8 < 8 := by omega
      obtain ⟨i, hi⟩ : ∃ i : Nat, page / 64 = i := ⟨(page / 64).toNat, by omega⟩
      obtain ⟨j, hj⟩ : ∃ j : Nat, page / 8 % 8 = j := ⟨(page / 8 % 8).toNat, by omega⟩
      rw [hi] at hI0 i1
      rw [hj] at hI1 j1
      rw [hi, Int.toNat_natCast] at hup
      rw [hi, hj, Int.toNat_natCast, Int.toNat_natCast] at hla
      have hset' := hset.out
      rw [hi, hj, Int.toNat_natCast, Int.toNat_natCast] at hset'
      have hset2 : Hid (y.set page x = ⟨((y.up1 i).la1 i j).S, ((y.up1 i).la1 i j).R, ((y.up1 i).la1 i j).s.write (((y.up1 i).la1 i j).S.pl page) x⟩) := hset'
      clear hset hset' hmt hm hi hj
      have hupH : Hid (y.S.up i = 0 → 1 ≤ y.s.left) := hup
      have hlaH : Hid ((y.up1 i).S.la (i * 8 + j) = 0 → 1 ≤ (y.up1 i).s.left) := hla
      have hn := h.me.le
      have ok1 := up1_ok ok hup hn
      have ok2 := la1_ok ok1 hla (by rw [up1_n]; exact hn)
      clear hup hla
      have i4 : (i : Int) < 4 := i1
      have j8 : (j : Int) < 8 := j1
      have cu := h1.sp.upC (i := i) (by omega)
      obtain ⟨U, hU⟩ : ∃ U, Hid (y.S.up i = U) := ⟨_, rfl⟩
      rw [hU.out] at cu
      go_upto_if 35 with (go_at_call 55; first | (with_reducible refine (hI0 _).mono ?_; rintro e wq ⟨rfl, rfl⟩) | (with_reducible refine (hI1 _).mono ?_; rintro e wq ⟨rfl, rfl⟩))
      go_cut [35] (fun _ wx => YAt wx q p b c (y.up1 i) ∧ Touch (fun x => x = q ∨ x = p ∨ x = c) w wx)
      case first =>
        by_cases h0 : U = 0
        · have hu0 : y.S.up i = 0 := by rw [hU.out, h0]
          have hl1 := hupH.out hu0
          have e1 : Hid (y.up1 i = ⟨y.S.setUp i y.s.least, rset y.R y.s.least 1, (y.s.mark y.s.least 1 y.S.own).roots y.S i y.s.least⟩) := by show _ = _; unfold YS.up1; rw [if_pos hu0]
          have hfl := least_lt hl1 hn
          have hy := h1
          subst h0
          go_upto_region 5 with fail
          refine wp_region_held_drew (S := fun _ => True) (by kernel_rfl) trivial (fun hHeld => ?_)
          refine wpAnyH_take (i := 0) (oi := { dst := some 36, op := _, type := _, pos := _, after := _, guard := _ }) (v := ?_) rfl (by kernel_rfl) (by kernel_rfl) (by kernel_rfl) (fun _ _ _ h => h) (Or.inl ⟨by rfl, ?_⟩) (by assumption) ?_
          rotate_left
          · intro wz hSw; (try dsimp only at hSw); go_simp; try with_reducible rfl
          (try simp only [Act.put]); (try simp only [List.setIfInBounds_toArray]); (try simp only [List.set_cons_succ]); (try simp only [List.set_cons_zero])
          refine wpAnyH_take (i := 1) (oi := { dst := some 37, op := _, type := _, pos := _, after := _, guard := _ }) (v := ?_) rfl (by kernel_rfl) (by kernel_rfl) (by kernel_rfl) (fun _ _ _ h => h) (Or.inl ⟨by rfl, ?_⟩) (by assumption) ?_
          rotate_left
          · intro wz hSw; (try dsimp only at hSw); go_simp; try with_reducible rfl
          (try simp only [Act.put]); (try simp only [List.setIfInBounds_toArray]); (try simp only [List.set_cons_succ]); (try simp only [List.set_cons_zero])
          refine wpAnyH_take (i := 2) (oi := { dst := some 38, op := _, type := _, pos := _, after := _, guard := _ }) (v := ?_) rfl (by kernel_rfl) (by kernel_rfl) (by kernel_rfl) (fun _ _ _ h => h) (Or.inl ⟨by rfl, ?_⟩) (by assumption) ?_
          rotate_left
          · intro wz hSw; (try dsimp only at hSw); go_simp; try with_reducible rfl
          (try simp only [Act.put]); (try simp only [List.setIfInBounds_toArray]); (try simp only [List.set_cons_succ]); (try simp only [List.set_cons_zero])
          refine wpAnyH_take (i := 4) (oi := { dst := some 40, op := _, type := _, pos := _, after := _, guard := _ }) (v := ?_) rfl (by kernel_rfl) (by kernel_rfl) (by kernel_rfl) (fun _ _ _ h => h) (Or.inl ⟨by rfl, ?_⟩) (by assumption) ?_
          rotate_left
          · intro wz hSw; (try dsimp only at hSw); go_simp; try with_reducible rfl
          (try simp only [Act.put]); (try simp only [List.setIfInBounds_toArray]); (try simp only [List.set_cons_succ]); (try simp only [List.set_cons_zero])
          refine wpAnyH_take (i := 5) (oi := { dst := some 41, op := _, type := _, pos := _, after := _, guard := _ }) (v := ?_) rfl (by kernel_rfl) (by kernel_rfl) (by kernel_rfl) (fun _ _ _ h => h) (Or.inl ⟨by rfl, ?_⟩) (by assumption) ?_
          rotate_left
          · intro wz hSw; (try dsimp only at hSw); go_simp; try with_reducible rfl
          (try simp only [Act.put]); (try simp only [List.setIfInBounds_toArray]); (try simp only [List.set_cons_succ]); (try simp only [List.set_cons_zero])
          have h0d := hy.drew
          have td : Touch (fun x => x = q ∨ x = p ∨ x = c) wc wc.drew := (Touch.refl _ wc).drew
          generalize wc.drew = W0 at *
          refine wpAnyH_ready (rs := [3]) (by kernel_rfl) (by simp) ?_
          refine AllReadyH.cons (o := { dst := some 39, op := _, type := _, pos := _, after := _, guard := _ }) rfl (fun K hK => ?_) AllReadyH.nil
          go_simp
          refine (stake_any h0d hl1).mono ?_
          rintro e w1 ⟨rfl, h1, t1⟩
          try dsimp only
          refine hK.out _ _ trivial (fun hHeld => ?_)
          clear hK K
          (try simp only [Act.put]); (try simp only [List.setIfInBounds_toArray]); (try simp only [List.set_cons_succ]); (try simp only [List.set_cons_zero])
          refine wpAnyH_take (i := 6) (oi := { dst := some 42, op := _, type := _, pos := _, after := _, guard := _ }) (v := ?_) rfl (by kernel_rfl) (by kernel_rfl) (by kernel_rfl) (fun _ _ _ h => h) (Or.inl ⟨by rfl, ?_⟩) (by assumption) ?_
          rotate_left
          · intro wz hSw; (try dsimp only at hSw); go_simp; try with_reducible rfl
          (try simp only [Act.put]); (try simp only [List.setIfInBounds_toArray]); (try simp only [List.set_cons_succ]); (try simp only [List.set_cons_zero])
          have cc := h1.sp.upC (i := i) (by omega)
          have cf := h1.sp.frozen (5 + i)
          refine wpAnyH_ready (rs := [7]) (by kernel_rfl) (by simp) ?_
          refine AllReadyH.cons (o := { dst := none, op := _, type := _, pos := _, after := _, guard := _ }) rfl (fun K hK => ?_) AllReadyH.nil
          go_simp
          refine hK.out _ _ trivial (fun hHeld => ?_)
          clear hK K
          (try simp only [Act.put]); (try simp only [List.setIfInBounds_toArray]); (try simp only [List.set_cons_succ]); (try simp only [List.set_cons_zero])
          refine wpAnyH_done (by kernel_rfl) ?_ _
          have hs1 := h1.sp.setUp (i := i) (by omega) (y.s.least : Int)
          have ts : Touch (· = q) w1 (w1.setCell ⟨q, 5 + i, none⟩ (.int .i64 y.s.least)) := (Touch.refl (· = q) w1).setCell (p := ⟨q, 5 + i, none⟩) rfl _
          have h2 := Sys.mk hs1 (h1.po.touch ts (fun e => h1.qp e.symm)) (h1.me.touch ts (fun e => h1.qb e.symm) (fun e => h1.qc e.symm))
          have t2 := (td.trans (t1.mono (fun x _ e => Or.inr e))).trans (ts.mono (fun x _ e => Or.inl e))
          generalize w1.setCell ⟨q, 5 + i, none⟩ (.int .i64 y.s.least) = W2 at *
          clear cc cf h1 t1 ts hs1 td h0d
          have c5 := h2.sp.upC (i := i) (by omega)
          have c5' : W2.cell? ⟨q, 5 + i, none⟩ = some (.int .i64 y.s.least) := by rw [c5]; simp [SS.setUp]
          clear c5
          have okS : (y.S.setUp i y.s.least).ok := by have := ok1; rw [e1.out] at this; exact this
          have hPR := putRoots_any h2 okS i y.s.least ⟨hfl.1, hfl.2.1⟩ ⟨by omega, by omega⟩
          go_wp2_with (go_at_call 56; refine hPR.mono ?_; rintro e w3 ⟨rfl, h3, t3⟩)
          go_meet
          rw [e1.out]
          exact ⟨h3, (t1.trans t2).trans (t3.mono (fun x _ e => Or.inr (Or.inr e)))⟩
        · have hu0 : y.S.up i ≠ 0 := by rw [hU.out]; exact h0
          have e1 : Hid (y.up1 i = y) := by show _ = _; unfold YS.up1; rw [if_neg hu0]
          have h0' : (U == 0) = false := by simpa using h0
          go_wp2_with fail
          go_meet
          rw [e1.out]
          exact ⟨h1, t1⟩
      case rest =>
        clear h1 t1 cu tn
        obtain ⟨h1, t1⟩ := hcut
        obtain ⟨z, hz⟩ : ∃ z, Hid (y.up1 i = z) := ⟨_, rfl⟩
        rw [hz.out] at h1 ok1 ok2 hlaH hset2
        clear hz hupH hU
        have hn2 := h1.me.le
        have cl : wc.cell? ⟨q, 9 + i * 8 + j, none⟩ = some (.int .i64 (z.S.la (i * 8 + j))) := by rw [Nat.add_assoc]; exact h1.sp.laC (k := i * 8 + j) (by omega)
        obtain ⟨V, hV⟩ : ∃ V, Hid (z.S.la (i * 8 + j) = V) := ⟨_, rfl⟩
        rw [hV.out] at cl
        go_upto_if 60 with fail
        go_cut [60] (fun _ wx => YAt wx q p b c (z.la1 i j) ∧ Touch (fun x => x = q ∨ x = p ∨ x = c) w wx)
        case first =>
          by_cases h0 : V = 0
          · have hu0 : z.S.la (i * 8 + j) = 0 := by rw [hV.out, h0]
            have hl1 := hlaH.out hu0
            have e1 : Hid (z.la1 i j = ⟨z.S.setLa (i * 8 + j) z.s.least, rset z.R z.s.least 1, (z.s.mark z.s.least 1 z.S.own).write (z.S.up i * 8 + j) (opn z.s.least)⟩) := by show _ = _; unfold YS.la1; rw [if_pos hu0]
            have hfl := least_lt hl1 hn2
            have hy := h1
            subst h0
            go_upto_region 8 with fail
            refine wp_region_held_drew (S := fun _ => True) (by kernel_rfl) trivial (fun hHeld => ?_)
            refine wpAnyH_take (i := 0) (oi := { dst := some 61, op := _, type := _, pos := _, after := _, guard := _ }) (v := ?_) rfl (by kernel_rfl) (by kernel_rfl) (by kernel_rfl) (fun _ _ _ h => h) (Or.inl ⟨by rfl, ?_⟩) (by assumption) ?_
            rotate_left
            · intro wz hSw; (try dsimp only at hSw); go_simp; try with_reducible rfl
            (try simp only [Act.put]); (try simp only [List.setIfInBounds_toArray]); (try simp only [List.set_cons_succ]); (try simp only [List.set_cons_zero])
            refine wpAnyH_take (i := 1) (oi := { dst := some 62, op := _, type := _, pos := _, after := _, guard := _ }) (v := ?_) rfl (by kernel_rfl) (by kernel_rfl) (by kernel_rfl) (fun _ _ _ h => h) (Or.inl ⟨by rfl, ?_⟩) (by assumption) ?_
            rotate_left
            · intro wz hSw; (try dsimp only at hSw); go_simp; try with_reducible rfl
            (try simp only [Act.put]); (try simp only [List.setIfInBounds_toArray]); (try simp only [List.set_cons_succ]); (try simp only [List.set_cons_zero])
            refine wpAnyH_take (i := 2) (oi := { dst := some 63, op := _, type := _, pos := _, after := _, guard := _ }) (v := ?_) rfl (by kernel_rfl) (by kernel_rfl) (by kernel_rfl) (fun _ _ _ h => h) (Or.inl ⟨by rfl, ?_⟩) (by assumption) ?_
            rotate_left
            · intro wz hSw; (try dsimp only at hSw); go_simp; try with_reducible rfl
            (try simp only [Act.put]); (try simp only [List.setIfInBounds_toArray]); (try simp only [List.set_cons_succ]); (try simp only [List.set_cons_zero])
            refine wpAnyH_take (i := 3) (oi := { dst := some 64, op := _, type := _, pos := _, after := _, guard := _ }) (v := ?_) rfl (by kernel_rfl) (by kernel_rfl) (by kernel_rfl) (fun _ _ _ h => h) (Or.inl ⟨by rfl, ?_⟩) (by assumption) ?_
            rotate_left
            · intro wz hSw; (try dsimp only at hSw); go_simp; try with_reducible rfl
            (try simp only [Act.put]); (try simp only [List.setIfInBounds_toArray]); (try simp only [List.set_cons_succ]); (try simp only [List.set_cons_zero])
            refine wpAnyH_take (i := 5) (oi := { dst := some 66, op := _, type := _, pos := _, after := _, guard := _ }) (v := ?_) rfl (by kernel_rfl) (by kernel_rfl) (by kernel_rfl) (fun _ _ _ h => h) (Or.inl ⟨by rfl, ?_⟩) (by assumption) ?_
            rotate_left
            · intro wz hSw; (try dsimp only at hSw); go_simp; try with_reducible rfl
            (try simp only [Act.put]); (try simp only [List.setIfInBounds_toArray]); (try simp only [List.set_cons_succ]); (try simp only [List.set_cons_zero])
            refine wpAnyH_take (i := 6) (oi := { dst := some 67, op := _, type := _, pos := _, after := _, guard := _ }) (v := ?_) rfl (by kernel_rfl) (by kernel_rfl) (by kernel_rfl) (fun _ _ _ h => h) (Or.inl ⟨by rfl, ?_⟩) (by assumption) ?_
            rotate_left
            · intro wz hSw; (try dsimp only at hSw); go_simp; try with_reducible rfl
            (try simp only [Act.put]); (try simp only [List.setIfInBounds_toArray]); (try simp only [List.set_cons_succ]); (try simp only [List.set_cons_zero])
            refine wpAnyH_take (i := 7) (oi := { dst := some 68, op := _, type := _, pos := _, after := _, guard := _ }) (v := ?_) rfl (by kernel_rfl) (by kernel_rfl) (by kernel_rfl) (fun _ _ _ h => h) (Or.inl ⟨by rfl, ?_⟩) (by assumption) ?_
            rotate_left
            · intro wz hSw; (try dsimp only at hSw); go_simp; try with_reducible rfl
            (try simp only [Act.put]); (try simp only [List.setIfInBounds_toArray]); (try simp only [List.set_cons_succ]); (try simp only [List.set_cons_zero])
            have h0d := hy.drew
            have td : Touch (fun x => x = q ∨ x = p ∨ x = c) wc wc.drew := (Touch.refl _ wc).drew
            generalize wc.drew = W0 at *
            refine wpAnyH_ready (rs := [4]) (by kernel_rfl) (by simp) ?_
            refine AllReadyH.cons (o := { dst := some 65, op := _, type := _, pos := _, after := _, guard := _ }) rfl (fun K hK => ?_) AllReadyH.nil
            go_simp
            refine (stake_any h0d hl1).mono ?_
            rintro e w1 ⟨rfl, h1, t1⟩
            try dsimp only
            refine hK.out _ _ trivial (fun hHeld => ?_)
            clear hK K
            (try simp only [Act.put]); (try simp only [List.setIfInBounds_toArray]); (try simp only [List.set_cons_succ]); (try simp only [List.set_cons_zero])
            refine wpAnyH_take (i := 8) (oi := { dst := some 69, op := _, type := _, pos := _, after := _, guard := _ }) (v := ?_) rfl (by kernel_rfl) (by kernel_rfl) (by kernel_rfl) (fun _ _ _ h => h) (Or.inl ⟨by rfl, ?_⟩) (by assumption) ?_
            rotate_left
            · intro wz hSw; (try dsimp only at hSw); go_simp; try with_reducible rfl
            (try simp only [Act.put]); (try simp only [List.setIfInBounds_toArray]); (try simp only [List.set_cons_succ]); (try simp only [List.set_cons_zero])
            have cc : w1.cell? ⟨q, 9 + i * 8 + j, none⟩ = some (.int .i64 (z.S.la (i * 8 + j))) := by rw [Nat.add_assoc]; exact h1.sp.laC (k := i * 8 + j) (by omega)
            have cf := h1.sp.frozen (9 + i * 8 + j)
            refine wpAnyH_ready (rs := [9]) (by kernel_rfl) (by simp) ?_
            refine AllReadyH.cons (o := { dst := none, op := _, type := _, pos := _, after := _, guard := _ }) rfl (fun K hK => ?_) AllReadyH.nil
            go_simp
            refine hK.out _ _ trivial (fun hHeld => ?_)
            clear hK K
            (try simp only [Act.put]); (try simp only [List.setIfInBounds_toArray]); (try simp only [List.set_cons_succ]); (try simp only [List.set_cons_zero])
            refine wpAnyH_done (by kernel_rfl) ?_ _
            have hs1 : SpAt (w1.setCell ⟨q, 9 + i * 8 + j, none⟩ (.int .i64 z.s.least)) q b p (z.S.setLa (i * 8 + j) z.s.least) := by rw [Nat.add_assoc]; exact h1.sp.setLa (i := i * 8 + j) (by omega) (z.s.least : Int)
            have ts : Touch (· = q) w1 (w1.setCell ⟨q, 9 + i * 8 + j, none⟩ (.int .i64 z.s.least)) := (Touch.refl (· = q) w1).setCell (p := ⟨q, 9 + i * 8 + j, none⟩) rfl _
            have h2 := Sys.mk hs1 (h1.po.touch ts (fun e => h1.qp e.symm)) (h1.me.touch ts (fun e => h1.qb e.symm) (fun e => h1.qc e.symm))
            have t2 := (td.trans (t1.mono (fun x _ e => Or.inr e))).trans (ts.mono (fun x _ e => Or.inl e))
            generalize w1.setCell ⟨q, 9 + i * 8 + j, none⟩ (.int .i64 z.s.least) = W2 at *
            clear cc cf h1 t1 ts hs1 td h0d
            have hqc := h2.qc
            have S0 : ∀ wx, Touch (· = c) W2 wx → wx.cell? ⟨q, 0, none⟩ = some (.pointer (some ⟨b, 0, none⟩)) ∧ wx.cell? ⟨q, 5 + i, none⟩ = some (.int .i64 (z.S.up i)) ∧ wx.cell? ⟨q, 9 + i * 8 + j, none⟩ = some (.int .i64 z.s.least) := fun wx tx => by
              have sx := h2.sp.touch tx hqc
              refine ⟨sx.memC, sx.upC (i := i) (by omega), ?_⟩
              rw [Nat.add_assoc, sx.laC (k := i * 8 + j) (by omega)]; simp [SS.setLa]
            have hO := fun wx => open_any (z.s.least : Int) wx
            have hui := ok1.up i
            have t0 : Touch (· = c) W2 W2.drew := (Touch.refl _ W2).drew
            have hP1 : ∀ wx, Touch Nil W2.drew wx → Calls Try.prog 54 #[.pointer (some ⟨b, 0, none⟩), .int .i64 (z.S.up i), .int .i64 j, .agg #[.bool true, .bool true, .bool true, .bool false, .int .i64 z.s.least]] wx fun e w' => e = .returned (.tuple #[]) ∧ MemAt w' b c ((z.s.mark z.s.least 1 z.S.own).write (z.S.up i * 8 + j) (opn z.s.least)) ∧ Touch (· = c) W2 w' := fun wx tx => by
              refine (put_any ((h2.drew.nil tx).me) (z.S.up i) j true true false z.s.least ⟨hfl.1, hfl.2.1⟩ hui ⟨by omega, by omega⟩).mono ?_
              rintro e w' ⟨rfl, m', t'⟩
              exact ⟨rfl, m', t0.trans ((tx.mono (fun _ _ h => h.elim)).trans t')⟩
            obtain ⟨u, hu⟩ : ∃ u, Hid (z.S.up i = u) := ⟨_, rfl⟩
            obtain ⟨f, hf⟩ : ∃ f : Int, Hid ((z.s.least : Int) = f) := ⟨_, rfl⟩
            simp only [hu.out, hf.out] at S0 hP1
            rw [hf.out] at hO
            go_upto_region 9 with fail
            go_region_held3 (fun wx => wx.cell? ⟨q, 0, none⟩ = some (.pointer (some ⟨b, 0, none⟩)) ∧ wx.cell? ⟨q, 5 + i, none⟩ = some (.int .i64 u) ∧ wx.cell? ⟨q, 9 + i * 8 + j, none⟩ = some (.int .i64 f)) (first | (exact S0 _ t0) | (exact S0 _ t3) | (exact S0 _ t4))
              (first | (go_at_call 58; refine (hO _).mono ?_; rintro e w3 ⟨rfl, tn3⟩; have t3 : Touch (· = c) W2 w3 := t0.trans (tn3.mono (fun _ _ h => h.elim))) | (go_at_call 54; with_reducible refine (hP1 _ tn3).mono ?_; rintro e w4 ⟨rfl, m4, t4⟩))
            go_wp2_with fail
            go_meet
            rw [e1.out]
            simp only [hu.out, hf.out]
            refine ⟨⟨?_, ?_, m4⟩, (t1.trans t2).trans (t4.mono (fun x _ e => Or.inr (Or.inr e)))⟩
            · have := h2.sp.touch t4 hqc
              rw [hf.out] at this; exact this
            · have := h2.po.touch t4 (h2.po.nec h2.me)
              rw [hf.out] at this; exact this
          · have hu0 : z.S.la (i * 8 + j) ≠ 0 := by rw [hV.out]; exact h0
            have e1 : Hid (z.la1 i j = z) := by show _ = _; unfold YS.la1; rw [if_neg hu0]
            have h0' : (V == 0) = false := by simpa using h0
            go_wp2_with fail
            go_meet
            rw [e1.out]
            exact ⟨h1, t1⟩
        case rest =>
          clear h1 t1 cl hV
          obtain ⟨h1, t1⟩ := hcut
          obtain ⟨v, hv⟩ : ∃ v, Hid (z.la1 i j = v) := ⟨_, rfl⟩
          rw [hv.out] at h1 ok2 hset2
          clear hv hlaH
          have hqc := h1.qc
          have c0 := h1.sp.memC
          have hll := ok2.la ((page / 64).toNat * 8 + (page / 8 % 8).toNat)
          have hpl : v.S.pl page < 1000 := by unfold SS.pl; omega
          have hPl : Calls Try.prog 59 #[.pointer (some ⟨q, 0, none⟩), .int .i64 page] wc.drew fun e w' => e = .returned (.int .i64 (v.S.pl page)) ∧ Touch Nil wc w' := by
            refine (place_any h1.drew.sp ok2 page h0 h256).mono ?_
            rintro e w' ⟨rfl, m, rfl⟩
            exact ⟨rfl, ((Touch.refl Nil wc).drew).drews m⟩
          have c0d : wc.drew.cell? ⟨q, 0, none⟩ = some (.pointer (some ⟨b, 0, none⟩)) := c0
          go_upto_region 10 with fail
          go_region_held3 (fun wx => wx.cell? ⟨q, 0, none⟩ = some (.pointer (some ⟨b, 0, none⟩))) (first | (exact c0d) | (exact s5.memC) | (exact s6.memC))
            (first | (go_at_call 59; with_reducible refine hPl.mono ?_; rintro e w5 ⟨rfl, t5⟩; have s5 := h1.sp.touch t5 (fun h => h); have m5 := h1.me.touch t5 (fun h => h) (fun h => h)) | (go_at_call 32; refine (write_any m5 _ _ (by omega)).mono ?_; rintro e w6 ⟨rfl, m6, t6⟩; have s6 := s5.touch t6 hqc))
          go_wp2
          go_ret
          rw [hset2.out]
          refine ⟨rfl, ⟨s6, (h1.po.touch t5 (fun h => h)).touch t6 (h1.po.nec h1.me), m6⟩, (t1.trans (t5.mono (fun _ _ h => h.elim))).trans (t6.mono (fun x _ e => Or.inr (Or.inr e)))⟩
end Go.Proofs.Ytaofkedcdeocjaa

/-
  Package pcid: a new generation, Of; the document's example.
-/
import Derived.Test.YtpffilnebffijaaNamB
import Derived.Deep.MidRow
namespace Go.Proofs.Ytpffilnebffijaa
open Go.ChangeShapes Go.WideShapes Go.ChangeAt Go.RowKit

/-- The cells of a new generation. -/
def reL (c g : Int) : List Value := [.int .i64 c, .int .i64 0, .int .i64 0, .int .i64 0, .int .i64 0, .bool false, .bool false, .bool false, .bool false, .bool false, .bool false, .bool false, .bool false, .int .i64 g]
theorem NAt.renewed {w : World} {b : Nat} {n : NS} (h : NAt w b n) : NAt (w.setCells b 0 (reL n.c (n.g + 1 : Nat))) b n.renew :=
  (rowIs_setCells (reL n.c (n.g + 1 : Nat)) 0 w n.cell h).congr fun i hi => by
    rw [if_pos (Nat.zero_le _)]
    match i, hi with
    | 0, _ | 1, _ | 2, _ | 3, _ | 4, _ | 5, _ | 6, _ | 7, _ | 8, _ | 9, _ | 10, _ | 11, _ | 12, _ | 13, _ => rfl
set_option maxHeartbeats 1000000 in
set_option maxRecDepth 20000 in
theorem nrenew_any {w : World} {b : Nat} {n : NS} (h : NAt w b n) (hg : n.g ≤ 1000000) :
    Calls Try.prog 81 #[.pointer (some ⟨b, 0, none⟩)] w fun e w' => e = .returned (.tuple #[]) ∧ NAt w' b n.renew ∧ Touch (· = b) w w' := by
  have c1 := h.cC
  have c2 := h.gC
  have hN := h.renewed
  have tN := (Touch.refl (· = b) w).drew.setCells rfl (reL n.c (n.g + 1 : Nat)) 0
  have hth := there_of_row h 0 14 (by omega)
  obtain ⟨g, hgg⟩ : ∃ g : Int, Hid ((n.g : Int) = g) := ⟨_, rfl⟩
  obtain ⟨c, hcc⟩ : ∃ c : Int, Hid ((n.c : Int) = c) := ⟨_, rfl⟩
  have g0 : 0 ≤ g := by have := hgg.out; omega
  have g1 : g ≤ 1000000 := by have := hgg.out; omega
  rw [show ((n.g + 1 : Nat) : Int) = (n.g : Int) + 1 by omega, hgg.out, hcc.out] at hN tN
  rw [hgg.out] at c2
  rw [hcc.out] at c1
  clear hg
  have hw : Hid (IntKind.i64.wrap (g + 1) = g + 1) := by show _ = _; rw [IntKind.wrap_i64]; omega
  go_enter Try.func81, Try.ntmps81
  go_upto_region 0 with fail
  refine wp_region_held_drew (S := fun _ => True) (by kernel_rfl) trivial (fun hHeld => ?_)
  refine wpAnyH_take (i := 0) (oi := { dst := some 2, op := _, type := _, pos := _, after := _, guard := _ }) (v := ?_) rfl (by kernel_rfl) (by kernel_rfl) (by kernel_rfl) (fun _ _ _ h => h) (Or.inl ⟨by rfl, ?_⟩) (by assumption) ?_
  rotate_left
  · intro wz hSw; (try dsimp only at hSw); go_simp; try with_reducible rfl
  try simp only [Act.put, List.setIfInBounds_toArray, List.set_cons_zero, List.set_cons_succ]
  refine wpAnyH_take (i := 1) (oi := { dst := some 3, op := _, type := _, pos := _, after := _, guard := _ }) (v := ?_) rfl (by kernel_rfl) (by kernel_rfl) (by kernel_rfl) (fun _ _ _ h => h) (Or.inl ⟨by rfl, ?_⟩) (by assumption) ?_
  rotate_left
  · intro wz hSw; (try dsimp only at hSw); go_simp; try with_reducible rfl
  try simp only [Act.put, List.setIfInBounds_toArray, List.set_cons_zero, List.set_cons_succ]
  refine wpAnyH_take (i := 2) (oi := { dst := some 4, op := _, type := _, pos := _, after := _, guard := _ }) (v := ?_) rfl (by kernel_rfl) (by kernel_rfl) (by kernel_rfl) (fun _ _ _ h => h) (Or.inl ⟨by rfl, ?_⟩) (by assumption) ?_
  rotate_left
  · intro wz hSw; (try dsimp only at hSw); go_simp; try with_reducible rfl
  try simp only [Act.put, List.setIfInBounds_toArray, List.set_cons_zero, List.set_cons_succ]
  refine wpAnyH_take (i := 3) (oi := { dst := some 5, op := _, type := _, pos := _, after := _, guard := _ }) (v := ?_) rfl (by kernel_rfl) (by kernel_rfl) (by kernel_rfl) (fun _ _ _ h => h) (Or.inl ⟨by rfl, ?_⟩) (by assumption) ?_
  rotate_left
  · intro wz hSw; (try dsimp only at hSw); go_simp; try with_reducible rfl
  try simp only [Act.put, List.setIfInBounds_toArray, List.set_cons_zero, List.set_cons_succ]
  refine wpAnyH_take (i := 5) (oi := { dst := some 7, op := _, type := _, pos := _, after := _, guard := _ }) (v := ?_) rfl (by kernel_rfl) (by kernel_rfl) (by kernel_rfl) (fun _ _ _ h => h) (Or.inl ⟨by rfl, ?_⟩) (by assumption) ?_
  rotate_left
  · intro wz hSw; (try dsimp only at hSw); go_simp; try with_reducible rfl
  try simp only [Act.put, List.setIfInBounds_toArray, List.set_cons_zero, List.set_cons_succ]
  refine wpAnyH_take (i := 6) (oi := { dst := some 8, op := _, type := _, pos := _, after := _, guard := _ }) (v := ?_) rfl (by kernel_rfl) (by kernel_rfl) (by kernel_rfl) (fun _ _ _ h => h) (Or.inl ⟨by rfl, ?_⟩) (by assumption) ?_
  rotate_left
  · intro wz hSw; (try dsimp only at hSw); go_simp; try with_reducible rfl
  try simp only [Act.put, List.setIfInBounds_toArray, List.set_cons_zero, List.set_cons_succ]
  refine wpAnyH_take (i := 7) (oi := { dst := some 9, op := _, type := _, pos := _, after := _, guard := _ }) (v := ?_) rfl (by kernel_rfl) (by kernel_rfl) (by kernel_rfl) (fun _ _ _ h => h) (Or.inl ⟨by rfl, ?_⟩) (by assumption) ?_
  rotate_left
  · intro wz hSw; (try dsimp only at hSw); go_simp; try with_reducible rfl
  try simp only [Act.put, List.setIfInBounds_toArray, List.set_cons_zero, List.set_cons_succ]
  refine wpAnyH_ready (rs := [4, 8]) (by kernel_rfl) (by simp) ?_
  refine AllReadyH.cons (o := { dst := some 6, op := _, type := _, pos := _, after := _, guard := _ }) rfl (fun K hK => ?_) (AllReadyH.cons (o := { dst := some 10, op := _, type := _, pos := _, after := _, guard := _ }) rfl (fun K hK => ?_) AllReadyH.nil)
  · go_simp
    refine hK.out _ _ trivial (fun hHeld => ?_)
    clear hK K
    try simp only [Act.put, List.setIfInBounds_toArray, List.set_cons_zero, List.set_cons_succ]
    refine wpAnyH_ready (rs := [8]) (by kernel_rfl) (by simp) ?_
    refine AllReadyH.cons (o := { dst := some 10, op := _, type := _, pos := _, after := _, guard := _ }) rfl (fun K hK => ?_) AllReadyH.nil
    go_simp
    refine hK.out _ _ trivial (fun hHeld => ?_)
    clear hK K
    try simp only [Act.put, List.setIfInBounds_toArray, List.set_cons_zero, List.set_cons_succ]
    refine wpAnyH_take (i := 9) (oi := { dst := some 11, op := _, type := _, pos := _, after := _, guard := _ }) (v := ?_) rfl (by kernel_rfl) (by kernel_rfl) (by kernel_rfl) (fun _ _ _ h => h) (Or.inl ⟨by rfl, ?_⟩) (by assumption) ?_
    rotate_left
    · intro wz hSw; (try dsimp only at hSw); go_simp; try with_reducible rfl
    try simp only [Act.put, List.setIfInBounds_toArray, List.set_cons_zero, List.set_cons_succ]
    rw [hw.out]
    refine wpAnyH_take (i := 10) (oi := { dst := some 12, op := _, type := _, pos := _, after := _, guard := _ }) (v := ?_) rfl (by kernel_rfl) (by kernel_rfl) (by kernel_rfl) (fun _ _ _ h => h) (Or.inl ⟨by rfl, ?_⟩) (by assumption) ?_
    rotate_left
    · intro wz hSw; (try dsimp only at hSw); go_simp; try with_reducible rfl
    try simp only [Act.put, List.setIfInBounds_toArray, List.set_cons_zero, List.set_cons_succ]
    refine wpAnyH_take (i := 11) (oi := { dst := some 13, op := _, type := _, pos := _, after := _, guard := _ }) (v := ?_) rfl (by kernel_rfl) (by kernel_rfl) (by kernel_rfl) (fun _ _ _ h => h) (Or.inl ⟨by rfl, ?_⟩) (by assumption) ?_
    rotate_left
    · intro wz hSw; (try dsimp only at hSw); go_simp; try with_reducible rfl
    try simp only [Act.put, List.setIfInBounds_toArray, List.set_cons_zero, List.set_cons_succ]
    refine wpAnyH_ready (rs := [12]) (by kernel_rfl) (by simp) ?_
    refine AllReadyH.cons (o := { dst := none, op := _, type := _, pos := _, after := _, guard := _ }) rfl (fun K hK => ?_) AllReadyH.nil
    rw [if_pos (by rfl)]
    refine wp_store_mid 128 (.tmp 13) (.tmp 12) rfl b 0 (reL c (g + 1)).toArray rfl rfl hth (by kernel_rfl) (by kernel_rfl) ?_
    have hN' : NAt (w.drew.setCells b 0 (reL c (g + 1)).toArray.toList) b n.renew := hN
    have tN' : Touch (· = b) w (w.drew.setCells b 0 (reL c (g + 1)).toArray.toList) := tN
    generalize w.drew.setCells b 0 (reL c (g + 1)).toArray.toList = W3 at *
    refine hK.out _ _ trivial (fun hHeld => ?_)
    clear hK K
    (try simp only [Act.put]); (try simp only [List.setIfInBounds_toArray]); (try simp only [List.set_cons_succ]); (try simp only [List.set_cons_zero])
    refine wpAnyH_done (by kernel_rfl) ?_ _
    go_wp2_with fail
    go_end0
    exact ⟨rfl, hN', tN'⟩
  · go_simp
    refine hK.out _ _ trivial (fun hHeld => ?_)
    clear hK K
    try simp only [Act.put, List.setIfInBounds_toArray, List.set_cons_zero, List.set_cons_succ]
    refine wpAnyH_take (i := 9) (oi := { dst := some 11, op := _, type := _, pos := _, after := _, guard := _ }) (v := ?_) rfl (by kernel_rfl) (by kernel_rfl) (by kernel_rfl) (fun _ _ _ h => h) (Or.inl ⟨by rfl, ?_⟩) (by assumption) ?_
    rotate_left
    · intro wz hSw; (try dsimp only at hSw); go_simp; try with_reducible rfl
    try simp only [Act.put, List.setIfInBounds_toArray, List.set_cons_zero, List.set_cons_succ]
    refine wpAnyH_ready (rs := [4]) (by kernel_rfl) (by simp) ?_
    refine AllReadyH.cons (o := { dst := some 6, op := _, type := _, pos := _, after := _, guard := _ }) rfl (fun K hK => ?_) AllReadyH.nil
    go_simp
    refine hK.out _ _ trivial (fun hHeld => ?_)
    clear hK K
    try simp only [Act.put, List.setIfInBounds_toArray, List.set_cons_zero, List.set_cons_succ]
    rw [hw.out]
    refine wpAnyH_take (i := 10) (oi := { dst := some 12, op := _, type := _, pos := _, after := _, guard := _ }) (v := ?_) rfl (by kernel_rfl) (by kernel_rfl) (by kernel_rfl) (fun _ _ _ h => h) (Or.inl ⟨by rfl, ?_⟩) (by assumption) ?_
    rotate_left
    · intro wz hSw; (try dsimp only at hSw); go_simp; try with_reducible rfl
    try simp only [Act.put, List.setIfInBounds_toArray, List.set_cons_zero, List.set_cons_succ]
    refine wpAnyH_take (i := 11) (oi := { dst := some 13, op := _, type := _, pos := _, after := _, guard := _ }) (v := ?_) rfl (by kernel_rfl) (by kernel_rfl) (by kernel_rfl) (fun _ _ _ h => h) (Or.inl ⟨by rfl, ?_⟩) (by assumption) ?_
    rotate_left
    · intro wz hSw; (try dsimp only at hSw); go_simp; try with_reducible rfl
    try simp only [Act.put, List.setIfInBounds_toArray, List.set_cons_zero, List.set_cons_succ]
    refine wpAnyH_ready (rs := [12]) (by kernel_rfl) (by simp) ?_
    refine AllReadyH.cons (o := { dst := none, op := _, type := _, pos := _, after := _, guard := _ }) rfl (fun K hK => ?_) AllReadyH.nil
    rw [if_pos (by rfl)]
    refine wp_store_mid 128 (.tmp 13) (.tmp 12) rfl b 0 (reL c (g + 1)).toArray rfl rfl hth (by kernel_rfl) (by kernel_rfl) ?_
    have hN' : NAt (w.drew.setCells b 0 (reL c (g + 1)).toArray.toList) b n.renew := hN
    have tN' : Touch (· = b) w (w.drew.setCells b 0 (reL c (g + 1)).toArray.toList) := tN
    generalize w.drew.setCells b 0 (reL c (g + 1)).toArray.toList = W3 at *
    refine hK.out _ _ trivial (fun hHeld => ?_)
    clear hK K
    (try simp only [Act.put]); (try simp only [List.setIfInBounds_toArray]); (try simp only [List.set_cons_succ]); (try simp only [List.set_cons_zero])
    refine wpAnyH_done (by kernel_rfl) ?_ _
    go_wp2_with fail
    go_end0
    exact ⟨rfl, hN', tN'⟩

set_option maxHeartbeats 1000000 in
theorem nof_any {w : World} {b : Nat} {n : NS} (h : NAt w b n) (hg : n.g ≤ 1000000) (p : Int) :
    Calls Try.prog 29 #[.pointer (some ⟨b, 0, none⟩), .int .i64 p] w fun e w' => e = .returned (.tuple #[.int .i64 (n.ofP p), .bool (n.ofA p)]) ∧ NAt w' b (n.ofN p) ∧ Touch (· = b) w w' := by
  have hP := isProc_any p w
  cases e : NS.isP p
  · have e1 : n.ofP p = 0 := by unfold NS.ofP; rw [if_pos e]
    have e2 : n.ofA p = false := by unfold NS.ofA; rw [e]; rfl
    have e3 : n.ofN p = n := by unfold NS.ofN; rw [if_pos e]
    rw [e] at hP
    rw [e1, e2, e3]
    go_enter Try.func29, Try.ntmps29
    go_wp2_with fail
    with_reducible refine hP.mono ?_
    rintro e wq ⟨rfl, rfl⟩
    go_wp2_with fail
    go_ret2
    exact ⟨rfl, h, Touch.refl _ _⟩
  · obtain ⟨p0, p1⟩ := (NS.isP_iff p).1 e
    have cc := h.pC p.toNat (by omega)
    have e' : ¬ NS.isP p = false := by rw [e]; decide
    by_cases hz : n.P p.toNat = 0
    · have hF := nfree_any h
      have fz := h.frozen (1 + p.toNat)
      by_cases hf : n.free = 0
      · have e1 : n.ofP p = 1 := by unfold NS.ofP; rw [if_neg e', if_neg (fun q => q hz), if_neg (fun q => q hf)]
        have e2 : n.ofA p = true := by unfold NS.ofA; rw [e, hz, hf]; rfl
        have e3 : n.ofN p = n.renew.put p.toNat 1 := by unfold NS.ofN; rw [if_neg e', if_neg (fun q => q hz), if_neg (fun q => q hf)]
        have hR := nrenew_any h hg
        rw [e] at hP
        rw [hz] at cc
        rw [hf] at hF
        rw [e1, e2, e3]
        clear e1 e2 e3 hz hf e e'
        go_enter Try.func29, Try.ntmps29
        go_wp2_with fail
        with_reducible refine hP.mono ?_
        rintro e wq ⟨rfl, rfl⟩
        go_wp2_with fail
        with_reducible refine hF.mono ?_
        rintro e wq ⟨rfl, rfl⟩
        go_wp2_with fail
        with_reducible refine hR.mono ?_
        rintro e w1 ⟨rfl, h1, t1⟩
        have fz := h1.frozen (1 + p.toNat)
        have cc := h1.pC p.toNat (by omega)
        have hN := h1.setP p.toNat 1 (by omega)
        have tN := t1.setCell (p := ⟨b, 1 + p.toNat, none⟩) rfl (.int .i64 1)
        go_wp2_with fail
        go_ret2
        exact ⟨rfl, hN, tN⟩
      · have e1 : n.ofP p = n.free := by unfold NS.ofP; rw [if_neg e', if_neg (fun q => q hz), if_pos hf]
        have e2 : n.ofA p = false := by unfold NS.ofA; rw [e, hz]; simp; exact hf
        have e3 : n.ofN p = n.put p.toNat n.free := by unfold NS.ofN; rw [if_neg e', if_neg (fun q => q hz), if_pos hf]
        rw [e] at hP
        rw [hz] at cc
        rw [e1, e2, e3]
        have hN := h.setP p.toNat n.free (by omega)
        have tN := (Touch.refl (· = b) w).setCell (p := ⟨b, 1 + p.toNat, none⟩) rfl (.int .i64 n.free)
        have hne : ((n.free : Int) == 0) = false := by simp; omega
        generalize n.free = K at *
        clear e1 e2 e3 hz hf e e'
        go_enter Try.func29, Try.ntmps29
        go_wp2_with fail
        with_reducible refine hP.mono ?_
        rintro e wq ⟨rfl, rfl⟩
        go_wp2_with fail
        with_reducible refine hF.mono ?_
        rintro e wq ⟨rfl, rfl⟩
        go_wp2_with fail
        go_ret2
        exact ⟨rfl, hN, tN⟩
    · have e1 : n.ofP p = n.P p.toNat := by unfold NS.ofP; rw [if_neg e', if_pos hz]
      have e2 : n.ofA p = false := by unfold NS.ofA; rw [e]; simp; exact fun q => absurd q hz
      have e3 : n.ofN p = n := by unfold NS.ofN; rw [if_neg e', if_pos hz]
      rw [e] at hP
      rw [e1, e2, e3]
      have hne : ((n.P p.toNat : Int) != 0) = true := by simp; omega
      generalize n.P p.toNat = K at *
      clear e1 e2 e3 hz e e'
      go_enter Try.func29, Try.ntmps29
      go_wp2_with fail
      with_reducible refine hP.mono ?_
      rintro e wq ⟨rfl, rfl⟩
      go_wp2_with fail
      go_ret2
      exact ⟨rfl, h, Touch.refl _ _⟩
set_option maxHeartbeats 1000000 in
theorem wakes11 (w : World) : Calls Try.prog 36 #[] w fun e w' => e = .returned (.bool true) ∧ Touch Nil w w' := by
  go_enter Try.func36, Try.ntmps36
  go_wp2_with fail
  with_reducible refine (nnew_any 1 w).mono ?_
  rintro e w1 ⟨rfl, h1, t1, _⟩
  have hO := nof_any h1 (Nat.zero_le _) 0
  rw [show (NS.fresh (NS.cpus 1)).ofP 0 = 1 from rfl, show (NS.fresh (NS.cpus 1)).ofA 0 = false from rfl, show (NS.fresh (NS.cpus 1)).ofN 0 = (NS.fresh 1).put 0 1 from rfl] at hO
  go_wp2_with fail
  with_reducible refine hO.mono ?_
  rintro e w2 ⟨rfl, h2, t2⟩
  have T2 := t1.transNew t2 (fun i hi e => by omega)
  have hA := npair_any h2 0
  have hG := ngen_any h2
  rw [show ((NS.fresh 1).put 0 1).pair 0 = 1 from rfl] at hA
  rw [show ((NS.fresh 1).put 0 1).g = 0 from rfl] at hG
  go_wp2_with fail
  with_reducible refine hA.mono ?_
  rintro e wq ⟨rfl, rfl⟩
  go_wp2_with fail
  with_reducible refine hG.mono ?_
  rintro e wq ⟨rfl, rfl⟩
  go_wp2_with fail
  go_ret
  exact ⟨rfl, T2⟩
end Go.Proofs.Ytpffilnebffijaa

/-
  The document's own caches: Evict.
-/
import Derived.Test.YtjfdjlinjghddaaRCacheC
namespace Go.Proofs.Ytjfdjlinjghddaa
open Go.ChangeShapes Go.WideShapes Go.ChangeAt Go.RowKit

theorem CQ.evict_eq (q : CQ) (u x : Int) (hm : q.may u x = true) : q.evict u x = { q with F := fun j => if j = u.toNat then (q.F u.toNat).cut 4 x else q.F j } := by
  unfold CQ.evict; rw [hm, if_pos rfl]
  congr 1; funext j; split
  · rename_i e; rw [e]
  · rfl
theorem CQ.evict_far {q : CQ} {u x : Int} (hn : q.near u x = false) : q.evict u x = q := by
  cases hm : q.may u x
  · simp [CQ.evict, hm]
  · have hh : (q.F u.toNat).has 4 x = false := by simpa [CQ.near, hm] using hn
    rw [q.evict_eq u x hm, Sets.cut_none hh]
    cases q; congr 1; funext j; split
    · rename_i e; rw [e]
    · rfl

set_option maxRecDepth 10000 in
set_option maxHeartbeats 4000000 in
theorem revict_any {w : World} {r lo : Nat} {q : CQ} (h : RCAt w r lo q) (u x : Int) :
    Calls Try.prog 21 #[.pointer (some ⟨r, 0, none⟩), .int .i64 u, .int .i64 x] w fun e w' => e = .returned (.bool (q.near u x)) ∧ RCAt w' r lo (q.evict u x) ∧ Touch (lo ≤ ·) w w' := by
  have hf := rnear_any h u x
  have hh := h
  obtain ⟨cl, c2, cap1, D, x1, x2, h⟩ := h
  cases hnr : q.near u x
  · rw [hnr] at hf
    rw [CQ.evict_far hnr]
    go_enter Try.func21, Try.ntmps21
    go_wp2_with (go_at_call 25; refine hf.mono ?_; rintro e wq ⟨rfl, rfl⟩)
    go_ret
    exact ⟨rfl, hh, Touch.refl _ _⟩
  · have hm : q.may u x = true := by
      cases hm : q.may u x
      · simp [CQ.near, hm] at hnr
      · rfl
    have hm' := hm
    simp only [CQ.may, Bool.and_eq_true, decide_eq_true_eq] at hm'
    obtain ⟨hw, hx⟩ := hm'
    obtain ⟨b1, b2⟩ := (q.hasC_iff u).1 hw
    rw [hnr] at hf
    rw [q.evict_eq u x hm]
    have hn := h.n2
    have hk4 : (x % 4).toNat < 4 := by omega
    have e4 : x.tmod 4 = x % 4 := Int.tmod_eq_emod_of_nonneg hx
    have m1 : 0 ≤ x % 4 := by omega
    have m2 : x % 4 < 4 := by omega
    have hU : u.toNat < q.n := by omega
    obtain ⟨a1, p1, v1e, s1, s2, at1⟩ := h.L1 u.toNat hU _ hk4
    have hlo : lo ≤ w.heap.size := Nat.le_trans h.rr (Nat.le_of_lt h.top.lt)
    have hlen1 := (h.okF u.toNat).len (x % 4).toNat
    have okp1 := (h.okF u.toNat).cut x
    have hp1 : (q.F u.toNat).cut 4 x (x % 4).toNat = (q.F u.toNat (x % 4).toNat).erase x := by simp [Sets.cut]
    have hq1 : ∀ j, j ≠ (x % 4).toNat → (q.F u.toNat).cut 4 x j = q.F u.toNat j := fun j hj => by simp [Sets.cut, hj]
    have td : Touch Nil w w.drew := (Touch.refl Nil w).drew
    go_enter Try.func21, Try.ntmps21
    go_wp2_with (go_at_call 25; refine hf.mono ?_; rintro e wq ⟨rfl, rfl⟩)
    have hSof : ∀ {wz : World}, RBl wz r lo q cl c2 cap1 D x1 x2 → (fun wx => wx.cell? ⟨r, 0, none⟩ = some (.slice (some ⟨cl, 0, none⟩) q.n cap1) ∧ wx.cell? ⟨cl, u.toNat, none⟩ = some (.slice (some ⟨D u.toNat, 0, none⟩) 4 4) ∧ wx.cell? ⟨D u.toNat, (x % 4).toNat, none⟩ = some (.slice a1 (q.F u.toNat (x % 4).toNat).length p1)) wz := fun hB => ⟨hB.top0, hB.l1.cell (i := u.toNat) hU, by rw [(hB.d1 u.toNat hU).cell (i := (x % 4).toNat) hk4, v1e]⟩
    have hS : (fun wx => wx.cell? ⟨r, 0, none⟩ = some (.slice (some ⟨cl, 0, none⟩) q.n cap1) ∧ wx.cell? ⟨cl, u.toNat, none⟩ = some (.slice (some ⟨D u.toNat, 0, none⟩) 4 4) ∧ wx.cell? ⟨D u.toNat, (x % 4).toNat, none⟩ = some (.slice a1 (q.F u.toNat (x % 4).toNat).length p1)) w.drew := hSof (h.touch td (fun _ _ _ e => e))
    refine wp_region_X (S := (fun wx => wx.cell? ⟨r, 0, none⟩ = some (.slice (some ⟨cl, 0, none⟩) q.n cap1) ∧ wx.cell? ⟨cl, u.toNat, none⟩ = some (.slice (some ⟨D u.toNat, 0, none⟩) 4 4) ∧ wx.cell? ⟨D u.toNat, (x % 4).toNat, none⟩ = some (.slice a1 (q.F u.toNat (x % 4).toNat).length p1))) (X := [26]) (by kernel_rfl) ?_
    refine wpAnyX_take (i := 0) (v := ?v0) rfl (by kernel_rfl) (by kernel_rfl) (by kernel_rfl) (by kernel_rfl) (fun _ _ _ h => h) (Or.inr hS) (Or.inl ⟨by rfl, ?hy0⟩) ?rest0
    case hy0 => intro wy _; go_simp; try with_reducible rfl
    simp only [Act.put, List.getElem_toArray, List.getElem_cons_zero, List.setIfInBounds_toArray, List.set_cons_zero, List.set_cons_succ]
    refine wpAnyX_take (i := 1) (v := ?v1) rfl (by kernel_rfl) (by kernel_rfl) (by kernel_rfl) (by kernel_rfl) (fun _ _ _ h => h) (Or.inr hS) (Or.inl ⟨by rfl, ?hy1⟩) ?rest1
    case hy1 => intro wy _; go_simp; try with_reducible rfl
    simp only [Act.put, List.getElem_toArray, List.getElem_cons_succ, List.getElem_cons_zero, List.setIfInBounds_toArray, List.set_cons_zero, List.set_cons_succ]
    refine wpAnyX_take (i := 2) (v := ?v2) rfl (by kernel_rfl) (by kernel_rfl) (by kernel_rfl) (by kernel_rfl) (fun _ _ _ h => h) (Or.inr hS) (Or.inl ⟨by rfl, ?hy2⟩) ?rest2
    case hy2 => intro wy _; go_simp; try with_reducible rfl
    simp only [Act.put, List.getElem_toArray, List.getElem_cons_succ, List.getElem_cons_zero, List.setIfInBounds_toArray, List.set_cons_zero, List.set_cons_succ]
    refine wpAnyX_load (i := 3) (v := ?v3) rfl (by kernel_rfl) (by kernel_rfl) (by kernel_rfl) (by kernel_rfl) (by kernel_rfl) (by kernel_rfl) (fun _ _ _ h => h) hS (Or.inl ⟨by rfl, ?hy3⟩) ?rest3
    case hy3 => rintro wy ⟨g1, g2, g3⟩; go_simp; try with_reducible rfl
    simp only [Act.put, List.getElem_toArray, List.getElem_cons_succ, List.getElem_cons_zero, List.setIfInBounds_toArray, List.set_cons_zero, List.set_cons_succ]
    refine wpAnyX_take (i := 4) (v := ?v4) rfl (by kernel_rfl) (by kernel_rfl) (by kernel_rfl) (by kernel_rfl) (fun _ _ _ h => h) (Or.inr hS) (Or.inl ⟨by rfl, ?hy4⟩) ?rest4
    case hy4 => intro wy _; go_simp; try with_reducible rfl
    simp only [Act.put, List.getElem_toArray, List.getElem_cons_succ, List.getElem_cons_zero, List.setIfInBounds_toArray, List.set_cons_zero, List.set_cons_succ]
    refine wpAnyX_take (i := 5) (v := ?v5) rfl (by kernel_rfl) (by kernel_rfl) (by kernel_rfl) (by kernel_rfl) (fun _ _ _ h => h) (Or.inr hS) (Or.inl ⟨by rfl, ?hy5⟩) ?rest5
    case hy5 => intro wy _; go_simp; try with_reducible rfl
    simp only [Act.put, List.getElem_toArray, List.getElem_cons_succ, List.getElem_cons_zero, List.setIfInBounds_toArray, List.set_cons_zero, List.set_cons_succ]
    refine wpAnyX_load (i := 6) (v := ?v6) rfl (by kernel_rfl) (by kernel_rfl) (by kernel_rfl) (by kernel_rfl) (by kernel_rfl) (by kernel_rfl) (fun _ _ _ h => h) hS (Or.inl ⟨by rfl, ?hy6⟩) ?rest6
    case hy6 => rintro wy ⟨g1, g2, g3⟩; go_simp; try with_reducible rfl
    simp only [Act.put, List.getElem_toArray, List.getElem_cons_succ, List.getElem_cons_zero, List.setIfInBounds_toArray, List.set_cons_zero, List.set_cons_succ]
    refine wpAnyX_take (i := 7) (v := ?v7) rfl (by kernel_rfl) (by kernel_rfl) (by kernel_rfl) (by kernel_rfl) (fun _ _ _ h => h) (Or.inr hS) (Or.inl ⟨by rfl, ?hy7⟩) ?rest7
    case hy7 => intro wy _; go_simp; try with_reducible rfl
    simp only [Act.put, List.getElem_toArray, List.getElem_cons_succ, List.getElem_cons_zero, List.setIfInBounds_toArray, List.set_cons_zero, List.set_cons_succ]
    refine wpAnyX_take (i := 8) (v := ?v8) rfl (by kernel_rfl) (by kernel_rfl) (by kernel_rfl) (by kernel_rfl) (fun _ _ _ h => h) (Or.inr hS) (Or.inl ⟨by rfl, ?hy8⟩) ?rest8
    case hy8 => intro wy _; go_simp; try with_reducible rfl
    simp only [Act.put, List.getElem_toArray, List.getElem_cons_succ, List.getElem_cons_zero, List.setIfInBounds_toArray, List.set_cons_zero, List.set_cons_succ]
    refine wpAnyX_take (i := 9) (v := ?v9) rfl (by kernel_rfl) (by kernel_rfl) (by kernel_rfl) (by kernel_rfl) (fun _ _ _ h => h) (Or.inr hS) (Or.inl ⟨by rfl, ?hy9⟩) ?rest9
    case hy9 => intro wy _; go_simp; try with_reducible rfl
    simp only [Act.put, List.getElem_toArray, List.getElem_cons_succ, List.getElem_cons_zero, List.setIfInBounds_toArray, List.set_cons_zero, List.set_cons_succ]
    refine wpAnyX_take (i := 10) (v := ?v10) rfl (by kernel_rfl) (by kernel_rfl) (by kernel_rfl) (by kernel_rfl) (fun _ _ _ h => h) (Or.inr hS) (Or.inl ⟨by rfl, ?hy10⟩) ?rest10
    case hy10 => intro wy _; go_simp; try with_reducible rfl
    simp only [Act.put, List.getElem_toArray, List.getElem_cons_succ, List.getElem_cons_zero, List.setIfInBounds_toArray, List.set_cons_zero, List.set_cons_succ]
    refine wpAnyX_take (i := 11) (v := ?v11) rfl (by kernel_rfl) (by kernel_rfl) (by kernel_rfl) (by kernel_rfl) (fun _ _ _ h => h) (Or.inr hS) (Or.inl ⟨by rfl, ?hy11⟩) ?rest11
    case hy11 => intro wy _; go_simp; try with_reducible rfl
    simp only [Act.put, List.getElem_toArray, List.getElem_cons_succ, List.getElem_cons_zero, List.setIfInBounds_toArray, List.set_cons_zero, List.set_cons_succ]
    refine wpAnyX_load (i := 12) (v := ?v12) rfl (by kernel_rfl) (by kernel_rfl) (by kernel_rfl) (by kernel_rfl) (by kernel_rfl) (by kernel_rfl) (fun _ _ _ h => h) hS (Or.inl ⟨by rfl, ?hy12⟩) ?rest12
    case hy12 => rintro wy ⟨g1, g2, g3⟩; go_simp; try with_reducible rfl
    simp only [Act.put, List.getElem_toArray, List.getElem_cons_succ, List.getElem_cons_zero, List.setIfInBounds_toArray, List.set_cons_zero, List.set_cons_succ]
    refine wpAnyX_take (i := 13) (v := ?v13) rfl (by kernel_rfl) (by kernel_rfl) (by kernel_rfl) (by kernel_rfl) (fun _ _ _ h => h) (Or.inr hS) (Or.inl ⟨by rfl, ?hy13⟩) ?rest13
    case hy13 => intro wy _; go_simp; try with_reducible rfl
    simp only [Act.put, List.getElem_toArray, List.getElem_cons_succ, List.getElem_cons_zero, List.setIfInBounds_toArray, List.set_cons_zero, List.set_cons_succ]
    refine wpAnyX_take (i := 14) (v := ?v14) rfl (by kernel_rfl) (by kernel_rfl) (by kernel_rfl) (by kernel_rfl) (fun _ _ _ h => h) (Or.inr hS) (Or.inl ⟨by rfl, ?hy14⟩) ?rest14
    case hy14 => intro wy _; go_simp; try with_reducible rfl
    simp only [Act.put, List.getElem_toArray, List.getElem_cons_succ, List.getElem_cons_zero, List.setIfInBounds_toArray, List.set_cons_zero, List.set_cons_succ]
    refine wpAnyX_load (i := 15) (v := ?v15) rfl (by kernel_rfl) (by kernel_rfl) (by kernel_rfl) (by kernel_rfl) (by kernel_rfl) (by kernel_rfl) (fun _ _ _ h => h) hS (Or.inl ⟨by rfl, ?hy15⟩) ?rest15
    case hy15 => rintro wy ⟨g1, g2, g3⟩; go_simp; try with_reducible rfl
    simp only [Act.put, List.getElem_toArray, List.getElem_cons_succ, List.getElem_cons_zero, List.setIfInBounds_toArray, List.set_cons_zero, List.set_cons_succ]
    refine wpAnyX_take (i := 16) (v := ?v16) rfl (by kernel_rfl) (by kernel_rfl) (by kernel_rfl) (by kernel_rfl) (fun _ _ _ h => h) (Or.inr hS) (Or.inl ⟨by rfl, ?hy16⟩) ?rest16
    case hy16 => intro wy _; go_simp; try with_reducible rfl
    simp only [Act.put, List.getElem_toArray, List.getElem_cons_succ, List.getElem_cons_zero, List.setIfInBounds_toArray, List.set_cons_zero, List.set_cons_succ]
    refine wpAnyX_take (i := 17) (v := ?v17) rfl (by kernel_rfl) (by kernel_rfl) (by kernel_rfl) (by kernel_rfl) (fun _ _ _ h => h) (Or.inr hS) (Or.inl ⟨by rfl, ?hy17⟩) ?rest17
    case hy17 => intro wy _; go_simp; try with_reducible rfl
    simp only [Act.put, List.getElem_toArray, List.getElem_cons_succ, List.getElem_cons_zero, List.setIfInBounds_toArray, List.set_cons_zero, List.set_cons_succ]
    refine wpAnyX_take (i := 18) (v := ?v18) rfl (by kernel_rfl) (by kernel_rfl) (by kernel_rfl) (by kernel_rfl) (fun _ _ _ h => h) (Or.inr hS) (Or.inl ⟨by rfl, ?hy18⟩) ?rest18
    case hy18 => intro wy _; go_simp; try with_reducible rfl
    simp only [Act.put, List.getElem_toArray, List.getElem_cons_succ, List.getElem_cons_zero, List.setIfInBounds_toArray, List.set_cons_zero, List.set_cons_succ]
    refine wpAnyX_load (i := 19) (v := ?v19) rfl (by kernel_rfl) (by kernel_rfl) (by kernel_rfl) (by kernel_rfl) (by kernel_rfl) (by kernel_rfl) (fun _ _ _ h => h) hS (Or.inl ⟨by rfl, ?hy19⟩) ?rest19
    case hy19 => rintro wy ⟨g1, g2, g3⟩; go_simp; try with_reducible rfl
    simp only [Act.put, List.getElem_toArray, List.getElem_cons_succ, List.getElem_cons_zero, List.setIfInBounds_toArray, List.set_cons_zero, List.set_cons_succ]
    refine wpAnyX_take (i := 20) (v := ?v20) rfl (by kernel_rfl) (by kernel_rfl) (by kernel_rfl) (by kernel_rfl) (fun _ _ _ h => h) (Or.inr hS) (Or.inl ⟨by rfl, ?hy20⟩) ?rest20
    case hy20 => intro wy _; go_simp; try with_reducible rfl
    simp only [Act.put, List.getElem_toArray, List.getElem_cons_succ, List.getElem_cons_zero, List.setIfInBounds_toArray, List.set_cons_zero, List.set_cons_succ]
    refine wpAnyX_one (i := 21) rfl (by kernel_rfl) ?_
    intro K1 hK1
    go_simp
    refine (rcut_any (at1.touch td (fun _ _ _ _ _ e => e)) s1 s2 hlo x (by omega)).mono ?_
    rintro e w1 ⟨v1, rfl, hL1, t1⟩
    have t1' : Touch Nil w w1 := td.trans t1
    have hB1 := h.touch t1' (fun _ _ _ e => e)
    have hS1 := hSof hB1
    obtain ⟨a3, p3, rfl, s5, s6, at3⟩ := hL1
    refine hK1 _ _ hS1 ?_
    clear hK1
    refine wpAnyX_take (i := 22) (v := ?v22) rfl (by kernel_rfl) (by kernel_rfl) (by kernel_rfl) (by kernel_rfl) (fun _ _ _ h => h) (Or.inr hS1) (Or.inl ⟨by rfl, ?hy22⟩) ?rest22
    case hy22 => intro wy _; go_simp; try with_reducible rfl
    simp only [Act.put, List.getElem_toArray, List.getElem_cons_succ, List.getElem_cons_zero, List.setIfInBounds_toArray, List.set_cons_zero, List.set_cons_succ]
    refine wpAnyX_take (i := 23) (v := ?v23) rfl (by kernel_rfl) (by kernel_rfl) (by kernel_rfl) (by kernel_rfl) (fun _ _ _ h => h) (Or.inr hS1) (Or.inl ⟨by rfl, ?hy23⟩) ?rest23
    case hy23 => intro wy _; go_simp; try with_reducible rfl
    simp only [Act.put, List.getElem_toArray, List.getElem_cons_succ, List.getElem_cons_zero, List.setIfInBounds_toArray, List.set_cons_zero, List.set_cons_succ]
    refine wpAnyX_take (i := 24) (v := ?v24) rfl (by kernel_rfl) (by kernel_rfl) (by kernel_rfl) (by kernel_rfl) (fun _ _ _ h => h) (Or.inr hS1) (Or.inl ⟨by rfl, ?hy24⟩) ?rest24
    case hy24 => intro wy _; go_simp; try with_reducible rfl
    simp only [Act.put, List.getElem_toArray, List.getElem_cons_succ, List.getElem_cons_zero, List.setIfInBounds_toArray, List.set_cons_zero, List.set_cons_succ]
    refine wpAnyX_take (i := 25) (v := ?v25) rfl (by kernel_rfl) (by kernel_rfl) (by kernel_rfl) (by kernel_rfl) (fun _ _ _ h => h) (Or.inr hS1) (Or.inl ⟨by rfl, ?hy25⟩) ?rest25
    case hy25 => intro wy _; go_simp; try with_reducible rfl
    simp only [Act.put, List.getElem_toArray, List.getElem_cons_succ, List.getElem_cons_zero, List.setIfInBounds_toArray, List.set_cons_zero, List.set_cons_succ]
    have c6 := (hB1.d1 u.toNat hU).cell (i := (x % 4).toNat) hk4
    have fz := (hB1.d1 u.toNat hU).frozen (x % 4).toNat
    refine wpAnyX_late (i := 26) rfl (by kernel_rfl) (by kernel_rfl) ?_
    intro K3 hK3
    go_simp
    refine hK3 _ _ ?_
    clear hK3
    have hB3 := hB1.setF hU (v := .slice a3 ((q.F u.toNat (x % 4).toNat).erase x).length p3) okp1 (by rw [hp1]; exact ⟨a3, p3, rfl, s5, s6, at3⟩) hq1
    have t3' : Touch (lo ≤ ·) w (w1.setCell ⟨D u.toNat, (x % 4).toNat, none⟩ (.slice a3 ((q.F u.toNat (x % 4).toNat).erase x).length p3)) := (t1'.mono fun _ _ e => e.elim).setCell (p := ⟨D u.toNat, (x % 4).toNat, none⟩) (h.rd u.toNat hU) _
    generalize w1.setCell ⟨D u.toNat, (x % 4).toNat, none⟩ (.slice a3 ((q.F u.toNat (x % 4).toNat).erase x).length p3) = w3 at *
    refine wpAnyX_done (by kernel_rfl) ?_ _
    go_wp2
    go_ret
    exact ⟨rfl, ⟨_, _, _, _, _, _, hB3⟩, t3'⟩
end Go.Proofs.Ytjfdjlinjghddaa

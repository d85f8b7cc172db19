/-
  The document's own caches: Touch.
-/
import Derived.Test.YtjfdjlinjghddaaRCacheB
import Derived.Test.YtjfdjlinjghddaaRegionL
namespace Go.Proofs.Ytjfdjlinjghddaa
open Go.ChangeShapes Go.WideShapes Go.ChangeAt Go.RowKit

theorem CQ.touch_eq (q : CQ) (u x : Int) (hm : q.may u x = true) : q.touch u x = { q with F := fun j => if j = u.toNat then (q.F u.toNat).put 4 2 x else q.F j, Sh := q.Sh.put 8 4 x } := by
  unfold CQ.touch; rw [hm, if_pos rfl]
  congr 1; funext j; split
  · rename_i e; rw [e]
  · rfl

set_option maxRecDepth 10000 in
set_option maxHeartbeats 4000000 in
theorem rtouch_any {w : World} {r lo : Nat} {q : CQ} (h : RCAt w r lo q) (u x : Int) :
    Calls Try.prog 20 #[.pointer (some ⟨r, 0, none⟩), .int .i64 u, .int .i64 x] w fun e w' => e = .returned (.bool (q.may u x)) ∧ RCAt w' r lo (q.touch u x) ∧ Touch (lo ≤ ·) w w' := by
  have hf := rfine_any h u x
  have hh := h
  obtain ⟨cl, c2, cap1, D, x1, x2, h⟩ := h
  cases hm : q.may u x
  · have hr : q.touch u x = q := by simp [CQ.touch, hm]
    rw [hm] at hf
    rw [hr]
    go_enter Try.func20, Try.ntmps20
    go_wp2_with (go_at_call 32; refine hf.mono ?_; rintro e wq ⟨rfl, rfl⟩)
    go_ret
    exact ⟨rfl, hh, Touch.refl _ _⟩
  · have hm' := hm
    simp only [CQ.may, Bool.and_eq_true, decide_eq_true_eq] at hm'
    obtain ⟨hw, hx⟩ := hm'
    obtain ⟨b1, b2⟩ := (q.hasC_iff u).1 hw
    rw [hm] at hf
    have h0 := h.top0
    have h1 := h.top1
    have hn := h.n2
    rw [q.touch_eq u x hm]
    have hk4 : (x % 4).toNat < 4 := by omega
    have hk8 : (x % 8).toNat < 8 := by omega
    have e4 : x.tmod 4 = x % 4 := Int.tmod_eq_emod_of_nonneg hx
    have e8 : x.tmod 8 = x % 8 := Int.tmod_eq_emod_of_nonneg hx
    have m1 : 0 ≤ x % 4 := by omega
    have m2 : x % 4 < 4 := by omega
    have m3 : 0 ≤ x % 8 := by omega
    have m4 : x % 8 < 8 := by omega
    have hU : u.toNat < q.n := by omega
    have c1 := h.l1.cell (i := u.toNat) hU
    have c3 := (h.d1 u.toNat hU).cell (i := (x % 4).toNat) hk4
    have c4 := h.l2.cell (i := (x % 8).toNat) hk8
    obtain ⟨a1, p1, v1e, s1, s2, at1⟩ := h.L1 u.toNat hU _ hk4
    obtain ⟨a2, p2, v2e, s3, s4, at2⟩ := h.L2 _ hk8
    rw [v1e] at c3
    rw [v2e] at c4
    have hlo : lo ≤ w.heap.size := Nat.le_trans h.rr (Nat.le_of_lt h.top.lt)
    have hlen1 := (h.okF u.toNat).len (x % 4).toNat
    have hlen2 := h.okS.len (x % 8).toNat
    have okp1 := (h.okF u.toNat).put (by omega) x hx
    have okp2 := h.okS.put (by omega) x hx
    have hp1 : (q.F u.toNat).put 4 2 x (x % 4).toNat = sput (q.F u.toNat (x % 4).toNat) x 2 := by simp [Sets.put]
    have hp2 : q.Sh.put 8 4 x (x % 8).toNat = sput (q.Sh (x % 8).toNat) x 4 := by simp [Sets.put]
    have hq1 : ∀ j, j ≠ (x % 4).toNat → (q.F u.toNat).put 4 2 x j = q.F u.toNat j := fun j hj => by simp [Sets.put, hj]
    have hq2 : ∀ j, j ≠ (x % 8).toNat → q.Sh.put 8 4 x j = q.Sh j := fun j hj => by simp [Sets.put, hj]
    have td : Touch Nil w w.drew := (Touch.refl Nil w).drew
    go_enter Try.func20, Try.ntmps20
    go_wp2_with (go_at_call 32; refine hf.mono ?_; rintro e wq ⟨rfl, rfl⟩)
    have hSof : ∀ {wz : World}, RBl wz r lo q cl c2 cap1 D x1 x2 → (fun wx => wx.cell? ⟨r, 0, none⟩ = some (.slice (some ⟨cl, 0, none⟩) q.n cap1) ∧ wx.cell? ⟨cl, u.toNat, none⟩ = some (.slice (some ⟨D u.toNat, 0, none⟩) 4 4) ∧ wx.cell? ⟨r, 1, none⟩ = some (.slice (some ⟨c2, 0, none⟩) 8 8) ∧ wx.cell? ⟨D u.toNat, (x % 4).toNat, none⟩ = some (.slice a1 (q.F u.toNat (x % 4).toNat).length p1) ∧ wx.cell? ⟨c2, (x % 8).toNat, none⟩ = some (.slice a2 (q.Sh (x % 8).toNat).length p2)) wz := fun hB => ⟨hB.top0, hB.l1.cell (i := u.toNat) hU, hB.top1, by rw [(hB.d1 u.toNat hU).cell (i := (x % 4).toNat) hk4, v1e], by rw [hB.l2.cell (i := (x % 8).toNat) hk8, v2e]⟩
    have hS : (fun wx => wx.cell? ⟨r, 0, none⟩ = some (.slice (some ⟨cl, 0, none⟩) q.n cap1) ∧ wx.cell? ⟨cl, u.toNat, none⟩ = some (.slice (some ⟨D u.toNat, 0, none⟩) 4 4) ∧ wx.cell? ⟨r, 1, none⟩ = some (.slice (some ⟨c2, 0, none⟩) 8 8) ∧ wx.cell? ⟨D u.toNat, (x % 4).toNat, none⟩ = some (.slice a1 (q.F u.toNat (x % 4).toNat).length p1) ∧ wx.cell? ⟨c2, (x % 8).toNat, none⟩ = some (.slice a2 (q.Sh (x % 8).toNat).length p2)) w.drew := hSof (h.touch td (fun _ _ _ e => e))
    refine wp_region_X (S := (fun wx => wx.cell? ⟨r, 0, none⟩ = some (.slice (some ⟨cl, 0, none⟩) q.n cap1) ∧ wx.cell? ⟨cl, u.toNat, none⟩ = some (.slice (some ⟨D u.toNat, 0, none⟩) 4 4) ∧ wx.cell? ⟨r, 1, none⟩ = some (.slice (some ⟨c2, 0, none⟩) 8 8) ∧ wx.cell? ⟨D u.toNat, (x % 4).toNat, none⟩ = some (.slice a1 (q.F u.toNat (x % 4).toNat).length p1) ∧ wx.cell? ⟨c2, (x % 8).toNat, none⟩ = some (.slice a2 (q.Sh (x % 8).toNat).length p2))) (X := [39, 41]) (by kernel_rfl) ?_
    refine wpAnyX_take (i := 0) (v := ?v0) rfl (by kernel_rfl) (by kernel_rfl) (by kernel_rfl) (by kernel_rfl) (fun _ _ _ h => h) (Or.inr hS) (Or.inl ⟨by rfl, ?hy0⟩) ?rest0
    case hy0 => intro wy _; go_simp; try with_reducible rfl
    simp only [Act.put, List.getElem_toArray, List.getElem_cons_zero, List.setIfInBounds_toArray, List.set_cons_zero, List.set_cons_succ]
    refine wpAnyX_take (i := 1) (v := ?v1) rfl (by kernel_rfl) (by kernel_rfl) (by kernel_rfl) (by kernel_rfl) (fun _ _ _ h => h) (Or.inr hS) (Or.inl ⟨by rfl, ?hy1⟩) ?rest1
    case hy1 => intro wy _; go_simp; try with_reducible rfl
    simp only [Act.put, List.getElem_toArray, List.getElem_cons_succ, List.getElem_cons_zero, List.setIfInBounds_toArray, List.set_cons_zero, List.set_cons_succ]
    refine wpAnyX_take (i := 2) (v := ?v2) rfl (by kernel_rfl) (by kernel_rfl) (by kernel_rfl) (by kernel_rfl) (fun _ _ _ h => h) (Or.inr hS) (Or.inl ⟨by rfl, ?hy2⟩) ?rest2
    case hy2 => intro wy _; go_simp; try with_reducible rfl
    simp only [Act.put, List.getElem_toArray, List.getElem_cons_succ, List.getElem_cons_zero, List.setIfInBounds_toArray, List.set_cons_zero, List.set_cons_succ]
    refine wpAnyX_load (i := 3) (v := ?v3) rfl (by kernel_rfl) (by kernel_rfl) (by kernel_rfl) (by kernel_rfl) (by kernel_rfl) (by kernel_rfl) (fun _ _ _ h => h) hS (Or.inl ⟨by rfl, ?hy3⟩) ?rest3
    case hy3 => rintro wy ⟨g1, g2, g3, g4, g5⟩; go_simp; try with_reducible rfl
    simp only [Act.put, List.getElem_toArray, List.getElem_cons_succ, List.getElem_cons_zero, List.setIfInBounds_toArray, List.set_cons_zero, List.set_cons_succ]
    refine wpAnyX_take (i := 4) (v := ?v4) rfl (by kernel_rfl) (by kernel_rfl) (by kernel_rfl) (by kernel_rfl) (fun _ _ _ h => h) (Or.inr hS) (Or.inl ⟨by rfl, ?hy4⟩) ?rest4
    case hy4 => intro wy _; go_simp; try with_reducible rfl
    simp only [Act.put, List.getElem_toArray, List.getElem_cons_succ, List.getElem_cons_zero, List.setIfInBounds_toArray, List.set_cons_zero, List.set_cons_succ]
    refine wpAnyX_take (i := 5) (v := ?v5) rfl (by kernel_rfl) (by kernel_rfl) (by kernel_rfl) (by kernel_rfl) (fun _ _ _ h => h) (Or.inr hS) (Or.inl ⟨by rfl, ?hy5⟩) ?rest5
    case hy5 => intro wy _; go_simp; try with_reducible rfl
    simp only [Act.put, List.getElem_toArray, List.getElem_cons_succ, List.getElem_cons_zero, List.setIfInBounds_toArray, List.set_cons_zero, List.set_cons_succ]
    refine wpAnyX_load (i := 6) (v := ?v6) rfl (by kernel_rfl) (by kernel_rfl) (by kernel_rfl) (by kernel_rfl) (by kernel_rfl) (by kernel_rfl) (fun _ _ _ h => h) hS (Or.inl ⟨by rfl, ?hy6⟩) ?rest6
    case hy6 => rintro wy ⟨g1, g2, g3, g4, g5⟩; go_simp; try with_reducible rfl
    simp only [Act.put, List.getElem_toArray, List.getElem_cons_succ, List.getElem_cons_zero, List.setIfInBounds_toArray, List.set_cons_zero, List.set_cons_succ]
    refine wpAnyX_take (i := 7) (v := ?v7) rfl (by kernel_rfl) (by kernel_rfl) (by kernel_rfl) (by kernel_rfl) (fun _ _ _ h => h) (Or.inr hS) (Or.inl ⟨by rfl, ?hy7⟩) ?rest7
    case hy7 => intro wy _; go_simp; try with_reducible rfl
    simp only [Act.put, List.getElem_toArray, List.getElem_cons_succ, List.getElem_cons_zero, List.setIfInBounds_toArray, List.set_cons_zero, List.set_cons_succ]
    refine wpAnyX_take (i := 8) (v := ?v8) rfl (by kernel_rfl) (by kernel_rfl) (by kernel_rfl) (by kernel_rfl) (fun _ _ _ h => h) (Or.inr hS) (Or.inl ⟨by rfl, ?hy8⟩) ?rest8
    case hy8 => intro wy _; go_simp; try with_reducible rfl
    simp only [Act.put, List.getElem_toArray, List.getElem_cons_succ, List.getElem_cons_zero, List.setIfInBounds_toArray, List.set_cons_zero, List.set_cons_succ]
    refine wpAnyX_take (i := 9) (v := ?v9) rfl (by kernel_rfl) (by kernel_rfl) (by kernel_rfl) (by kernel_rfl) (fun _ _ _ h => h) (Or.inr hS) (Or.inl ⟨by rfl, ?hy9⟩) ?rest9
    case hy9 => intro wy _; go_simp; try with_reducible rfl
    simp only [Act.put, List.getElem_toArray, List.getElem_cons_succ, List.getElem_cons_zero, List.setIfInBounds_toArray, List.set_cons_zero, List.set_cons_succ]
    refine wpAnyX_take (i := 10) (v := ?v10) rfl (by kernel_rfl) (by kernel_rfl) (by kernel_rfl) (by kernel_rfl) (fun _ _ _ h => h) (Or.inr hS) (Or.inl ⟨by rfl, ?hy10⟩) ?rest10
    case hy10 => intro wy _; go_simp; try with_reducible rfl
    simp only [Act.put, List.getElem_toArray, List.getElem_cons_succ, List.getElem_cons_zero, List.setIfInBounds_toArray, List.set_cons_zero, List.set_cons_succ]
    refine wpAnyX_take (i := 11) (v := ?v11) rfl (by kernel_rfl) (by kernel_rfl) (by kernel_rfl) (by kernel_rfl) (fun _ _ _ h => h) (Or.inr hS) (Or.inl ⟨by rfl, ?hy11⟩) ?rest11
    case hy11 => intro wy _; go_simp; try with_reducible rfl
    simp only [Act.put, List.getElem_toArray, List.getElem_cons_succ, List.getElem_cons_zero, List.setIfInBounds_toArray, List.set_cons_zero, List.set_cons_succ]
    refine wpAnyX_load (i := 12) (v := ?v12) rfl (by kernel_rfl) (by kernel_rfl) (by kernel_rfl) (by kernel_rfl) (by kernel_rfl) (by kernel_rfl) (fun _ _ _ h => h) hS (Or.inl ⟨by rfl, ?hy12⟩) ?rest12
    case hy12 => rintro wy ⟨g1, g2, g3, g4, g5⟩; go_simp; try with_reducible rfl
    simp only [Act.put, List.getElem_toArray, List.getElem_cons_succ, List.getElem_cons_zero, List.setIfInBounds_toArray, List.set_cons_zero, List.set_cons_succ]
    refine wpAnyX_take (i := 13) (v := ?v13) rfl (by kernel_rfl) (by kernel_rfl) (by kernel_rfl) (by kernel_rfl) (fun _ _ _ h => h) (Or.inr hS) (Or.inl ⟨by rfl, ?hy13⟩) ?rest13
    case hy13 => intro wy _; go_simp; try with_reducible rfl
    simp only [Act.put, List.getElem_toArray, List.getElem_cons_succ, List.getElem_cons_zero, List.setIfInBounds_toArray, List.set_cons_zero, List.set_cons_succ]
    refine wpAnyX_take (i := 14) (v := ?v14) rfl (by kernel_rfl) (by kernel_rfl) (by kernel_rfl) (by kernel_rfl) (fun _ _ _ h => h) (Or.inr hS) (Or.inl ⟨by rfl, ?hy14⟩) ?rest14
    case hy14 => intro wy _; go_simp; try with_reducible rfl
    simp only [Act.put, List.getElem_toArray, List.getElem_cons_succ, List.getElem_cons_zero, List.setIfInBounds_toArray, List.set_cons_zero, List.set_cons_succ]
    refine wpAnyX_take (i := 15) (v := ?v15) rfl (by kernel_rfl) (by kernel_rfl) (by kernel_rfl) (by kernel_rfl) (fun _ _ _ h => h) (Or.inr hS) (Or.inl ⟨by rfl, ?hy15⟩) ?rest15
    case hy15 => intro wy _; go_simp; try with_reducible rfl
    simp only [Act.put, List.getElem_toArray, List.getElem_cons_succ, List.getElem_cons_zero, List.setIfInBounds_toArray, List.set_cons_zero, List.set_cons_succ]
    refine wpAnyX_take (i := 16) (v := ?v16) rfl (by kernel_rfl) (by kernel_rfl) (by kernel_rfl) (by kernel_rfl) (fun _ _ _ h => h) (Or.inr hS) (Or.inl ⟨by rfl, ?hy16⟩) ?rest16
    case hy16 => intro wy _; go_simp; try with_reducible rfl
    simp only [Act.put, List.getElem_toArray, List.getElem_cons_succ, List.getElem_cons_zero, List.setIfInBounds_toArray, List.set_cons_zero, List.set_cons_succ]
    refine wpAnyX_take (i := 17) (v := ?v17) rfl (by kernel_rfl) (by kernel_rfl) (by kernel_rfl) (by kernel_rfl) (fun _ _ _ h => h) (Or.inr hS) (Or.inl ⟨by rfl, ?hy17⟩) ?rest17
    case hy17 => intro wy _; go_simp; try with_reducible rfl
    simp only [Act.put, List.getElem_toArray, List.getElem_cons_succ, List.getElem_cons_zero, List.setIfInBounds_toArray, List.set_cons_zero, List.set_cons_succ]
    refine wpAnyX_load (i := 18) (v := ?v18) rfl (by kernel_rfl) (by kernel_rfl) (by kernel_rfl) (by kernel_rfl) (by kernel_rfl) (by kernel_rfl) (fun _ _ _ h => h) hS (Or.inl ⟨by rfl, ?hy18⟩) ?rest18
    case hy18 => rintro wy ⟨g1, g2, g3, g4, g5⟩; go_simp; try with_reducible rfl
    simp only [Act.put, List.getElem_toArray, List.getElem_cons_succ, List.getElem_cons_zero, List.setIfInBounds_toArray, List.set_cons_zero, List.set_cons_succ]
    refine wpAnyX_take (i := 19) (v := ?v19) rfl (by kernel_rfl) (by kernel_rfl) (by kernel_rfl) (by kernel_rfl) (fun _ _ _ h => h) (Or.inr hS) (Or.inl ⟨by rfl, ?hy19⟩) ?rest19
    case hy19 => intro wy _; go_simp; try with_reducible rfl
    simp only [Act.put, List.getElem_toArray, List.getElem_cons_succ, List.getElem_cons_zero, List.setIfInBounds_toArray, List.set_cons_zero, List.set_cons_succ]
    refine wpAnyX_take (i := 20) (v := ?v20) rfl (by kernel_rfl) (by kernel_rfl) (by kernel_rfl) (by kernel_rfl) (fun _ _ _ h => h) (Or.inr hS) (Or.inl ⟨by rfl, ?hy20⟩) ?rest20
    case hy20 => intro wy _; go_simp; try with_reducible rfl
    simp only [Act.put, List.getElem_toArray, List.getElem_cons_succ, List.getElem_cons_zero, List.setIfInBounds_toArray, List.set_cons_zero, List.set_cons_succ]
    refine wpAnyX_load (i := 21) (v := ?v21) rfl (by kernel_rfl) (by kernel_rfl) (by kernel_rfl) (by kernel_rfl) (by kernel_rfl) (by kernel_rfl) (fun _ _ _ h => h) hS (Or.inl ⟨by rfl, ?hy21⟩) ?rest21
    case hy21 => rintro wy ⟨g1, g2, g3, g4, g5⟩; go_simp; try with_reducible rfl
    simp only [Act.put, List.getElem_toArray, List.getElem_cons_succ, List.getElem_cons_zero, List.setIfInBounds_toArray, List.set_cons_zero, List.set_cons_succ]
    refine wpAnyX_take (i := 22) (v := ?v22) rfl (by kernel_rfl) (by kernel_rfl) (by kernel_rfl) (by kernel_rfl) (fun _ _ _ h => h) (Or.inr hS) (Or.inl ⟨by rfl, ?hy22⟩) ?rest22
    case hy22 => intro wy _; go_simp; try with_reducible rfl
    simp only [Act.put, List.getElem_toArray, List.getElem_cons_succ, List.getElem_cons_zero, List.setIfInBounds_toArray, List.set_cons_zero, List.set_cons_succ]
    refine wpAnyX_take (i := 23) (v := ?v23) rfl (by kernel_rfl) (by kernel_rfl) (by kernel_rfl) (by kernel_rfl) (fun _ _ _ h => h) (Or.inr hS) (Or.inl ⟨by rfl, ?hy23⟩) ?rest23
    case hy23 => intro wy _; go_simp; try with_reducible rfl
    simp only [Act.put, List.getElem_toArray, List.getElem_cons_succ, List.getElem_cons_zero, List.setIfInBounds_toArray, List.set_cons_zero, List.set_cons_succ]
    refine wpAnyX_take (i := 24) (v := ?v24) rfl (by kernel_rfl) (by kernel_rfl) (by kernel_rfl) (by kernel_rfl) (fun _ _ _ h => h) (Or.inr hS) (Or.inl ⟨by rfl, ?hy24⟩) ?rest24
    case hy24 => intro wy _; go_simp; try with_reducible rfl
    simp only [Act.put, List.getElem_toArray, List.getElem_cons_succ, List.getElem_cons_zero, List.setIfInBounds_toArray, List.set_cons_zero, List.set_cons_succ]
    refine wpAnyX_load (i := 25) (v := ?v25) rfl (by kernel_rfl) (by kernel_rfl) (by kernel_rfl) (by kernel_rfl) (by kernel_rfl) (by kernel_rfl) (fun _ _ _ h => h) hS (Or.inl ⟨by rfl, ?hy25⟩) ?rest25
    case hy25 => rintro wy ⟨g1, g2, g3, g4, g5⟩; go_simp; try with_reducible rfl
    simp only [Act.put, List.getElem_toArray, List.getElem_cons_succ, List.getElem_cons_zero, List.setIfInBounds_toArray, List.set_cons_zero, List.set_cons_succ]
    refine wpAnyX_take (i := 26) (v := ?v26) rfl (by kernel_rfl) (by kernel_rfl) (by kernel_rfl) (by kernel_rfl) (fun _ _ _ h => h) (Or.inr hS) (Or.inl ⟨by rfl, ?hy26⟩) ?rest26
    case hy26 => intro wy _; go_simp; try with_reducible rfl
    simp only [Act.put, List.getElem_toArray, List.getElem_cons_succ, List.getElem_cons_zero, List.setIfInBounds_toArray, List.set_cons_zero, List.set_cons_succ]
    refine wpAnyX_take (i := 28) (v := ?v28) rfl (by kernel_rfl) (by kernel_rfl) (by kernel_rfl) (by kernel_rfl) (fun _ _ _ h => h) (Or.inr hS) (Or.inl ⟨by rfl, ?hy28⟩) ?rest28
    case hy28 => intro wy _; go_simp; try with_reducible rfl
    simp only [Act.put, List.getElem_toArray, List.getElem_cons_succ, List.getElem_cons_zero, List.setIfInBounds_toArray, List.set_cons_zero, List.set_cons_succ]
    refine wpAnyX_take (i := 29) (v := ?v29) rfl (by kernel_rfl) (by kernel_rfl) (by kernel_rfl) (by kernel_rfl) (fun _ _ _ h => h) (Or.inr hS) (Or.inl ⟨by rfl, ?hy29⟩) ?rest29
    case hy29 => intro wy _; go_simp; try with_reducible rfl
    simp only [Act.put, List.getElem_toArray, List.getElem_cons_succ, List.getElem_cons_zero, List.setIfInBounds_toArray, List.set_cons_zero, List.set_cons_succ]
    refine wpAnyX_take (i := 30) (v := ?v30) rfl (by kernel_rfl) (by kernel_rfl) (by kernel_rfl) (by kernel_rfl) (fun _ _ _ h => h) (Or.inr hS) (Or.inl ⟨by rfl, ?hy30⟩) ?rest30
    case hy30 => intro wy _; go_simp; try with_reducible rfl
    simp only [Act.put, List.getElem_toArray, List.getElem_cons_succ, List.getElem_cons_zero, List.setIfInBounds_toArray, List.set_cons_zero, List.set_cons_succ]
    refine wpAnyX_load (i := 31) (v := ?v31) rfl (by kernel_rfl) (by kernel_rfl) (by kernel_rfl) (by kernel_rfl) (by kernel_rfl) (by kernel_rfl) (fun _ _ _ h => h) hS (Or.inl ⟨by rfl, ?hy31⟩) ?rest31
    case hy31 => rintro wy ⟨g1, g2, g3, g4, g5⟩; go_simp; try with_reducible rfl
    simp only [Act.put, List.getElem_toArray, List.getElem_cons_succ, List.getElem_cons_zero, List.setIfInBounds_toArray, List.set_cons_zero, List.set_cons_succ]
    refine wpAnyX_take (i := 32) (v := ?v32) rfl (by kernel_rfl) (by kernel_rfl) (by kernel_rfl) (by kernel_rfl) (fun _ _ _ h => h) (Or.inr hS) (Or.inl ⟨by rfl, ?hy32⟩) ?rest32
    case hy32 => intro wy _; go_simp; try with_reducible rfl
    simp only [Act.put, List.getElem_toArray, List.getElem_cons_succ, List.getElem_cons_zero, List.setIfInBounds_toArray, List.set_cons_zero, List.set_cons_succ]
    refine wpAnyX_take (i := 33) (v := ?v33) rfl (by kernel_rfl) (by kernel_rfl) (by kernel_rfl) (by kernel_rfl) (fun _ _ _ h => h) (Or.inr hS) (Or.inl ⟨by rfl, ?hy33⟩) ?rest33
    case hy33 => intro wy _; go_simp; try with_reducible rfl
    simp only [Act.put, List.getElem_toArray, List.getElem_cons_succ, List.getElem_cons_zero, List.setIfInBounds_toArray, List.set_cons_zero, List.set_cons_succ]
    refine wpAnyX_take (i := 34) (v := ?v34) rfl (by kernel_rfl) (by kernel_rfl) (by kernel_rfl) (by kernel_rfl) (fun _ _ _ h => h) (Or.inr hS) (Or.inl ⟨by rfl, ?hy34⟩) ?rest34
    case hy34 => intro wy _; go_simp; try with_reducible rfl
    simp only [Act.put, List.getElem_toArray, List.getElem_cons_succ, List.getElem_cons_zero, List.setIfInBounds_toArray, List.set_cons_zero, List.set_cons_succ]
    refine wpAnyX_load (i := 35) (v := ?v35) rfl (by kernel_rfl) (by kernel_rfl) (by kernel_rfl) (by kernel_rfl) (by kernel_rfl) (by kernel_rfl) (fun _ _ _ h => h) hS (Or.inl ⟨by rfl, ?hy35⟩) ?rest35
    case hy35 => rintro wy ⟨g1, g2, g3, g4, g5⟩; go_simp; try with_reducible rfl
    simp only [Act.put, List.getElem_toArray, List.getElem_cons_succ, List.getElem_cons_zero, List.setIfInBounds_toArray, List.set_cons_zero, List.set_cons_succ]
    refine wpAnyX_take (i := 36) (v := ?v36) rfl (by kernel_rfl) (by kernel_rfl) (by kernel_rfl) (by kernel_rfl) (fun _ _ _ h => h) (Or.inr hS) (Or.inl ⟨by rfl, ?hy36⟩) ?rest36
    case hy36 => intro wy _; go_simp; try with_reducible rfl
    simp only [Act.put, List.getElem_toArray, List.getElem_cons_succ, List.getElem_cons_zero, List.setIfInBounds_toArray, List.set_cons_zero, List.set_cons_succ]
    refine wpAnyX_one (i := 27) rfl (by kernel_rfl) ?_
    intro K1 hK1
    go_simp
    refine (rput_any (at1.touch td (fun _ _ _ _ _ e => e)) s1 s2 hlo x 2 (Or.inl rfl) hlen1).mono ?_
    rintro e w1 ⟨v1, rfl, hL1, t1⟩
    have t1' : Touch Nil w w1 := td.trans t1
    have hB1 := h.touch t1' (fun _ _ _ e => e)
    have hS1 := hSof hB1
    obtain ⟨a3, p3, rfl, s5, s6, at3⟩ := hL1
    refine hK1 _ _ hS1 ?_
    clear hK1
    refine wpAnyX_one (i := 37) rfl (by kernel_rfl) ?_
    intro K2 hK2
    go_simp
    refine (rput_any (at2.touch t1' (fun _ _ _ _ _ e => e)) s3 s4 (Nat.le_trans hlo t1'.size) x 4 (Or.inr rfl) hlen2).mono ?_
    rintro e w2 ⟨v2, rfl, hL2, t2⟩
    have t2' : Touch Nil w w2 := t1'.trans t2
    have hB2 := h.touch t2' (fun _ _ _ e => e)
    have hS2 := hSof hB2
    obtain ⟨a4, p4, rfl, s7, s8, at4⟩ := hL2
    refine hK2 _ _ hS2 ?_
    clear hK2
    refine wpAnyX_take (i := 38) (v := ?v38) rfl (by kernel_rfl) (by kernel_rfl) (by kernel_rfl) (by kernel_rfl) (fun _ _ _ h => h) (Or.inr hS2) (Or.inl ⟨by rfl, ?hy38⟩) ?rest38
    case hy38 => intro wy _; go_simp; try with_reducible rfl
    simp only [Act.put, List.getElem_toArray, List.getElem_cons_succ, List.getElem_cons_zero, List.setIfInBounds_toArray, List.set_cons_zero, List.set_cons_succ]
    have c6 := (hB2.d1 u.toNat hU).cell (i := (x % 4).toNat) hk4
    have fz := (hB2.d1 u.toNat hU).frozen (x % 4).toNat
    refine wpAnyX_late (i := 39) rfl (by kernel_rfl) (by kernel_rfl) ?_
    intro K3 hK3
    go_simp
    refine hK3 _ _ ?_
    clear hK3
    have hB3 := hB2.setF hU (v := .slice a3 (sput (q.F u.toNat (x % 4).toNat) x 2).length p3) okp1 (by rw [hp1]; exact ⟨a3, p3, rfl, s5, s6, at3.touch t2 (fun _ _ _ _ _ e => e)⟩) hq1
    have t3' : Touch (lo ≤ ·) w (w2.setCell ⟨D u.toNat, (x % 4).toNat, none⟩ (.slice a3 (sput (q.F u.toNat (x % 4).toNat) x 2).length p3)) := (t2'.mono fun _ _ e => e.elim).setCell (p := ⟨D u.toNat, (x % 4).toNat, none⟩) (h.rd u.toNat hU) _
    have hL4 : Lst (w2.setCell ⟨D u.toNat, (x % 4).toNat, none⟩ (.slice a3 (sput (q.F u.toNat (x % 4).toNat) x 2).length p3)) lo (.slice a4 (sput (q.Sh (x % 8).toNat) x 4).length p4) (sput (q.Sh (x % 8).toNat) x 4) := ⟨a4, p4, rfl, s7, s8, at4.touch ((Touch.refl (· = D u.toNat) w2).setCell (p := ⟨D u.toNat, (x % 4).toNat, none⟩) rfl _) (fun b _ _ _ hr => rowHas_ne hr (hB2.d1 u.toNat hU) (by decide))⟩
    generalize w2.setCell ⟨D u.toNat, (x % 4).toNat, none⟩ (.slice a3 (sput (q.F u.toNat (x % 4).toNat) x 2).length p3) = w3 at *
    refine wpAnyX_take (i := 40) (v := ?v40) rfl (by kernel_rfl) (by kernel_rfl) (by kernel_rfl) (by kernel_rfl) (fun _ _ _ h => h) (Or.inl (by kernel_rfl)) (Or.inl ⟨by rfl, ?hy40⟩) ?rest40
    case hy40 => intro wy _; go_simp; try with_reducible rfl
    simp only [Act.put, List.getElem_toArray, List.getElem_cons_succ, List.getElem_cons_zero, List.setIfInBounds_toArray, List.set_cons_zero, List.set_cons_succ]
    have c7 := hB3.l2.cell (i := (x % 8).toNat) hk8
    have fy := hB3.l2.frozen (x % 8).toNat
    refine wpAnyX_late (i := 41) rfl (by kernel_rfl) (by kernel_rfl) ?_
    intro K4 hK4
    go_simp
    refine hK4 _ _ ?_
    clear hK4
    refine wpAnyX_done (by kernel_rfl) ?_ _
    have hB4 := hB3.setS (k := (x % 8).toNat) (v := .slice a4 (sput (q.Sh (x % 8).toNat) x 4).length p4) (S' := q.Sh.put 8 4 x) okp2 (by rw [hp2]; exact hL4) hq2
    have t4' := t3'.setCell (p := ⟨c2, (x % 8).toNat, none⟩) h.r2 (.slice a4 (sput (q.Sh (x % 8).toNat) x 4).length p4)
    generalize w3.setCell ⟨c2, (x % 8).toNat, none⟩ (.slice a4 (sput (q.Sh (x % 8).toNat) x 4).length p4) = w4 at *
    go_wp2
    go_ret
    exact ⟨rfl, ⟨_, _, _, _, _, _, hB4⟩, t4'⟩
end Go.Proofs.Ytjfdjlinjghddaa

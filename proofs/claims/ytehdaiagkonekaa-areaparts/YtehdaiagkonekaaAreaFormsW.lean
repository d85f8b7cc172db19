/-
  AreaForms: its walk.
-/
import Derived.Test.YtehdaiagkonekaaAreaG
namespace Go.Proofs.Ytehdaiagkonekaa
open Go.ChangeShapes Go.WideShapes Go.ChangeAt Go.RowKit

theorem seg_k {R : Nat → Int} {a b : Nat} {r : Int} {L : List Rn} (hL : runsK R a = L) (n : Nat) (hb : b = a + n) (hn : 1 ≤ n) (hr : 0 ≤ r) (h : ∀ i, a ≤ i → i < b → R i = r) (hj : ∀ x, L.getLast? = some x → ¬ (x.f + x.n = a ∧ x.r = r)) : runsK R b = L ++ [⟨a, n, r⟩] := by
  subst hb
  rw [runsK_seg R a n r hn hr (fun i hi => h _ (by omega) (by omega)) (by rw [hL]; exact hj), hL]
theorem skip_k {R : Nat → Int} {a b : Nat} {L : List Rn} (hL : runsK R a = L) (hab : a ≤ b) (h : ∀ i, a ≤ i → i < b → R i < 0) : runsK R b = L := by
  obtain ⟨n, rfl⟩ : ∃ n, b = a + n := ⟨b - a, by omega⟩
  rw [runsK_skip R a n (fun i hi => h _ (by omega) (by omega)), hL]
theorem lit_runs (w : World) (ty : TypeId) (L : List Rn) : RunsL (w.alloc (.cells (flatR L).toArray ty)) (some ⟨w.heap.size, 0, none⟩) L := by
  refine Or.inr ⟨_, 0, rfl, by simp, fun i x hx => ?_⟩
  obtain ⟨c0, c1, c2⟩ := flatR_get L hx
  have hb := heap_alloc_new w (.cells (flatR L).toArray ty)
  unfold World.cell?
  rw [hb, Nat.zero_add]
  exact ⟨by simpa using c0, by simpa using c1, by simpa using c2⟩
def f1 (F : Nat) := setA noA F 5 3
def f2 (F : Nat) := setA (f1 F) (F + 5) 2 3
def f3 (F : Nat) := setA (f2 F) (F + 8) 1 1
def f4 (F : Nat) := setA (f3 F) (F + 2) 2 0
def f5 (F : Nat) := setA (f4 F) (F + 6) 1 (-1)
def f6 (F : Nat) := setA (f5 F) (F + 6) 2 3
theorem runs3 (F : Nat) (h : F < 200) : runsK (f3 F) 256 = [⟨F, 7, 3⟩, ⟨(F : Int) + 8, 1, 1⟩] := by
  have a0 : runsK (f3 F) F = [] := skip_k (runsK_zero _) (Nat.zero_le _) (fun i _ _ => by simp only [f3, f2, f1, setA, noA]; (repeat' split) <;> omega)
  have a1 := seg_k a0 7 rfl (by omega) (show (0 : Int) ≤ 3 by omega) (fun i _ _ => by simp only [f3, f2, f1, setA, noA]; (repeat' split) <;> omega) (by intro x hx; cases hx)
  have a2 := skip_k a1 (show F + 7 ≤ F + 8 by omega) (fun i _ _ => by simp only [f3, f2, f1, setA, noA]; (repeat' split) <;> omega)
  have a3 := seg_k a2 1 rfl (by omega) (show (0 : Int) ≤ 1 by omega) (fun i _ _ => by simp only [f3, f2, f1, setA, noA]; (repeat' split) <;> omega) (by intro x hx; simp at hx; subst hx; simp)
  exact skip_k a3 (by omega) (fun i _ _ => by simp only [f3, f2, f1, setA, noA]; (repeat' split) <;> omega)
theorem runs5 (F : Nat) (h : F < 200) : runsK (f5 F) 256 = [⟨F, 2, 3⟩, ⟨(F : Int) + 2, 2, 0⟩, ⟨(F : Int) + 4, 2, 3⟩, ⟨(F : Int) + 8, 1, 1⟩] := by
  have a0 : runsK (f5 F) F = [] := skip_k (runsK_zero _) (Nat.zero_le _) (fun i _ _ => by simp only [f5, f4, f3, f2, f1, setA, noA]; (repeat' split) <;> omega)
  have a1 := seg_k a0 2 rfl (by omega) (show (0 : Int) ≤ 3 by omega) (fun i _ _ => by simp only [f5, f4, f3, f2, f1, setA, noA]; (repeat' split) <;> omega) (by intro x hx; cases hx)
  have a2 := seg_k a1 2 (b := F + 4) rfl (by omega) (show (0 : Int) ≤ 0 by omega) (fun i _ _ => by simp only [f5, f4, f3, f2, f1, setA, noA]; (repeat' split) <;> omega) (by intro x hx; simp at hx; subst hx; simp)
  have a3 := seg_k a2 2 (b := F + 6) rfl (by omega) (show (0 : Int) ≤ 3 by omega) (fun i _ _ => by simp only [f5, f4, f3, f2, f1, setA, noA]; (repeat' split) <;> omega) (by intro x hx; simp at hx; subst hx; simp)
  have a4 := skip_k a3 (show F + 6 ≤ F + 8 by omega) (fun i _ _ => by simp only [f5, f4, f3, f2, f1, setA, noA]; (repeat' split) <;> omega)
  have a5 := seg_k a4 1 (b := F + 9) rfl (by omega) (show (0 : Int) ≤ 1 by omega) (fun i _ _ => by simp only [f5, f4, f3, f2, f1, setA, noA]; (repeat' split) <;> omega) (by intro x hx; simp at hx; subst hx; simp)
  exact skip_k a5 (by omega) (fun i _ _ => by simp only [f5, f4, f3, f2, f1, setA, noA]; (repeat' split) <;> omega)
theorem runs6 (F : Nat) (h : F < 200) : (runsK (f6 F) 256).length = 4 := by
  have a0 : runsK (f6 F) F = [] := skip_k (runsK_zero _) (Nat.zero_le _) (fun i _ _ => by simp only [f6, f5, f4, f3, f2, f1, setA, noA]; (repeat' split) <;> omega)
  have a1 := seg_k a0 2 rfl (by omega) (show (0 : Int) ≤ 3 by omega) (fun i _ _ => by simp only [f6, f5, f4, f3, f2, f1, setA, noA]; (repeat' split) <;> omega) (by intro x hx; cases hx)
  have a2 := seg_k a1 2 (b := F + 4) rfl (by omega) (show (0 : Int) ≤ 0 by omega) (fun i _ _ => by simp only [f6, f5, f4, f3, f2, f1, setA, noA]; (repeat' split) <;> omega) (by intro x hx; simp at hx; subst hx; simp)
  have a3 := seg_k a2 4 (b := F + 8) rfl (by omega) (show (0 : Int) ≤ 3 by omega) (fun i _ _ => by simp only [f6, f5, f4, f3, f2, f1, setA, noA]; (repeat' split) <;> omega) (by intro x hx; simp at hx; subst hx; simp)
  have a5 := seg_k a3 1 (b := F + 9) rfl (by omega) (show (0 : Int) ≤ 1 by omega) (fun i _ _ => by simp only [f6, f5, f4, f3, f2, f1, setA, noA]; (repeat' split) <;> omega) (by intro x hx; simp at hx; subst hx; simp)
  rw [skip_k a5 (show F + 9 ≤ 256 by omega) (fun i _ _ => by simp only [f6, f5, f4, f3, f2, f1, setA, noA]; (repeat' split) <;> omega)]
  rfl
theorem pgs6 (F : Nat) (h : F < 200) : (pgsA (f6 F) 256).length = 9 := by
  have a0 := pgsA_skip (f6 F) 0 F (fun i _ => by simp only [f6, f5, f4, f3, f2, f1, setA, noA]; (repeat' split) <;> omega)
  rw [Nat.zero_add] at a0
  have a1 := pgsA_seg (f6 F) F 9 (fun i _ => by simp only [f6, f5, f4, f3, f2, f1, setA, noA]; (repeat' split) <;> omega)
  have a2 := pgsA_skip (f6 F) (F + 9) (256 - (F + 9)) (fun i _ => by simp only [f6, f5, f4, f3, f2, f1, setA, noA]; (repeat' split) <;> omega)
  rw [show F + 9 + (256 - (F + 9)) = 256 by omega] at a2
  rw [a2, a1, a0]; rfl
theorem rts5_3 (F : Nat) (h : F < 200) : rtsA (f5 F) ((F : Int) + 3) = (0, true) := by
  have e : f5 F (F + 3) = 0 := by (try unfold f6); (try unfold f5); (try unfold f4); (try unfold f3); (try unfold f2); (try unfold f1); (try unfold setA); (try unfold noA); (try dsimp only); (repeat' split) <;> omega
  rw [rtsA_yes (P := F + 3) (by omega) (by omega)]
  unfold rt
  rw [e]; rfl
theorem rts5_6 (F : Nat) (h : F < 200) : rtsA (f5 F) ((F : Int) + 6) = (0, false) := by
  have e : f5 F (F + 6) = -1 := by (try unfold f6); (try unfold f5); (try unfold f4); (try unfold f3); (try unfold f2); (try unfold f1); (try unfold setA); (try unfold noA); (try dsimp only); (repeat' split) <;> omega
  rw [rtsA_yes (P := F + 6) (by omega) (by omega)]
  unfold rt
  rw [e]; rfl
set_option maxRecDepth 20000 in
set_option maxHeartbeats 2000000 in
theorem areaForms_walk (a0 : Int) (w : World) : Calls Try.prog 3 #[.int .i64 a0] w fun e w' => e = .returned (.bool true) ∧ Touch Nil w w' := by
  have hN := anew_any w
  have hW := fun w1 => within_any a0 200 w1 (by decide) (by decide)
  obtain ⟨F, hF, hF'⟩ : ∃ F : Nat, F < 200 ∧ a0 % 200 = F := ⟨(a0 % 200).toNat, by omega, by omega⟩
  rw [hF'] at hW
  clear hF'
  have q2 : IntKind.i64.wrap ((F : Int) + 2) = F + 2 := by rw [IntKind.wrap_i64]; omega
  have q3 : IntKind.i64.wrap ((F : Int) + 3) = F + 3 := by rw [IntKind.wrap_i64]; omega
  have q4 : IntKind.i64.wrap ((F : Int) + 4) = F + 4 := by rw [IntKind.wrap_i64]; omega
  have q5 : IntKind.i64.wrap ((F : Int) + 5) = F + 5 := by rw [IntKind.wrap_i64]; omega
  have q6 : IntKind.i64.wrap ((F : Int) + 6) = F + 6 := by rw [IntKind.wrap_i64]; omega
  have q8 : IntKind.i64.wrap ((F : Int) + 8) = F + 8 := by rw [IntKind.wrap_i64]; omega
  go_enter Try.func3, Try.ntmps3
  go_wp2_with fail
  with_reducible refine hN.mono ?_
  rintro e w1 ⟨rfl, h1, T1, s1⟩
  generalize hB : w.heap.size = B at *
  go_wp2_with fail
  with_reducible refine (hW w1).mono ?_
  rintro e wq ⟨rfl, rfl⟩
  have hc := add_k h1 F 5 3 (show _ = (0, f1 F) from addA_ok (F := F) (M := 5) (by omega) rfl (by omega) (by omega) (by omega) (fun k hk => by (try unfold f6); (try unfold f5); (try unfold f4); (try unfold f3); (try unfold f2); (try unfold f1); (try unfold setA); (try unfold noA); (try dsimp only); (repeat' split) <;> omega)) (by omega)
  go_wp2_with fail
  with_reducible refine hc.mono ?_
  rintro e w2 ⟨rfl, h2, t⟩
  have T2 := T1.transNew t (fun i hi e => by omega)
  clear hc t h1 T1
  have hc := add_k h2 ((F : Int) + 5) 2 3 (show _ = (0, f2 F) from addA_ok (F := F + 5) (M := 2) (by omega) rfl (by omega) (by omega) (by omega) (fun k hk => by (try unfold f6); (try unfold f5); (try unfold f4); (try unfold f3); (try unfold f2); (try unfold f1); (try unfold setA); (try unfold noA); (try dsimp only); (repeat' split) <;> omega)) (by omega)
  go_wp2_with fail
  with_reducible refine hc.mono ?_
  rintro e w3 ⟨rfl, h3, t⟩
  have T3 := T2.transNew t (fun i hi e => by omega)
  clear hc t h2 T2
  have hc := add_k h3 ((F : Int) + 8) 1 1 (show _ = (0, f3 F) from addA_ok (F := F + 8) (M := 1) (by omega) rfl (by omega) (by omega) (by omega) (fun k hk => by (try unfold f6); (try unfold f5); (try unfold f4); (try unfold f3); (try unfold f2); (try unfold f1); (try unfold setA); (try unfold noA); (try dsimp only); (repeat' split) <;> omega)) (by omega)
  go_wp2_with fail
  with_reducible refine hc.mono ?_
  rintro e w4 ⟨rfl, h4, t⟩
  have T4 := T3.transNew t (fun i hi e => by omega)
  clear hc t h3 T3
  have hL := list_k h4 (runs3 F hF) (n := 2) rfl
  go_wp2_with fail
  with_reducible refine hL.mono ?_
  rintro e w5 ⟨a, cap, rfl, hr, t, hc1, hc2⟩
  have h5 := h4.touch t (by simp [Nil])
  have T5 := T4.transNew t (fun i hi e => e.elim)
  clear hL t h4 T4
  have tL := (Touch.refl Nil w5).alloc (.cells (flatR [⟨F, 7, 3⟩, ⟨(F : Int) + 8, 1, 1⟩]).toArray 29)
  have hS := rsame_any (hr.touch tL) (lit_runs w5 29 [⟨F, 7, 3⟩, ⟨(F : Int) + 8, 1, 1⟩]) 2 rfl (by omega) cap 2
  have hh := h5.touch tL (by simp [Nil])
  have TT := T5.trans tL
  clear hr tL h5 T5
  go_wp2_with fail
  refine hS.mono ?_
  rintro e w6 ⟨rfl, t⟩
  have h6 := hh.touch t (by simp [Nil])
  have T6 := TT.transNew t (fun i hi e => e.elim)
  clear hS t hh TT
  have hc := chg_k h6 ((F : Int) + 2) 2 0 (show _ = (0, f4 F) from chgA_ok (F := F + 2) (M := 2) (by omega) rfl (by omega) (by omega) (by omega) (fun k hk => by (try unfold f6); (try unfold f5); (try unfold f4); (try unfold f3); (try unfold f2); (try unfold f1); (try unfold setA); (try unfold noA); (try dsimp only); (repeat' split) <;> omega)) (by omega)
  go_wp2_with fail
  with_reducible refine hc.mono ?_
  rintro e w7 ⟨rfl, h7, t⟩
  have T7 := T6.transNew t (fun i hi e => by omega)
  clear hc t h6 T6
  have hc := cut_k h7 ((F : Int) + 6) 1 (show _ = (0, f5 F) from cutA_ok (F := F + 6) (M := 1) (by omega) rfl (by omega) (by omega) (fun k hk => by (try unfold f6); (try unfold f5); (try unfold f4); (try unfold f3); (try unfold f2); (try unfold f1); (try unfold setA); (try unfold noA); (try dsimp only); (repeat' split) <;> omega)) (by omega)
  go_wp2_with fail
  with_reducible refine hc.mono ?_
  rintro e w8 ⟨rfl, h8, t⟩
  have T8 := T7.transNew t (fun i hi e => by omega)
  clear hc t h7 T7
  have hL := list_k h8 (runs5 F hF) (n := 4) rfl
  go_wp2_with fail
  with_reducible refine hL.mono ?_
  rintro e w9 ⟨a, cap, rfl, hr, t, hc1, hc2⟩
  have h9 := h8.touch t (by simp [Nil])
  have T9 := T8.transNew t (fun i hi e => e.elim)
  clear hL t h8 T8
  have tL := (Touch.refl Nil w9).alloc (.cells (flatR [⟨F, 2, 3⟩, ⟨(F : Int) + 2, 2, 0⟩, ⟨(F : Int) + 4, 2, 3⟩, ⟨(F : Int) + 8, 1, 1⟩]).toArray 29)
  have hS := rsame_any (hr.touch tL) (lit_runs w9 29 [⟨F, 2, 3⟩, ⟨(F : Int) + 2, 2, 0⟩, ⟨(F : Int) + 4, 2, 3⟩, ⟨(F : Int) + 8, 1, 1⟩]) 4 rfl (by omega) cap 4
  have hh := h9.touch tL (by simp [Nil])
  have TT := T9.trans tL
  clear hr tL h9 T9
  go_wp2_with fail
  refine hS.mono ?_
  rintro e w10 ⟨rfl, t⟩
  have h10 := hh.touch t (by simp [Nil])
  have T10 := TT.transNew t (fun i hi e => e.elim)
  clear hS t hh TT
  have hc := rts_k h10 ((F : Int) + 3) (rts5_3 F hF) (by omega)
  go_wp2_with fail
  with_reducible refine hc.mono ?_
  rintro e w11 ⟨rfl, t⟩
  have h11 := h10.touch t (by simp [Nil])
  have T11 := T10.transNew t (fun i hi e => e.elim)
  clear hc t h10 T10
  have hc := rts_k h11 ((F : Int) + 6) (rts5_6 F hF) (by omega)
  go_wp2_with fail
  with_reducible refine hc.mono ?_
  rintro e w12 ⟨rfl, t⟩
  have h12 := h11.touch t (by simp [Nil])
  have T12 := T11.transNew t (fun i hi e => e.elim)
  clear hc t h11 T11
  have hc := add_k h12 ((F : Int) + 4) 1 3 (show _ = (4, f5 F) from addA_there (F := F + 4) (M := 1) (by omega) rfl (by omega) (by omega) (by omega) 0 (by omega) (by (try unfold f6); (try unfold f5); (try unfold f4); (try unfold f3); (try unfold f2); (try unfold f1); (try unfold setA); (try unfold noA); (try dsimp only); (repeat' split) <;> omega)) (by omega)
  go_wp2_with fail
  with_reducible refine hc.mono ?_
  rintro e w13 ⟨rfl, h13, t⟩
  have T13 := T12.transNew t (fun i hi e => by omega)
  clear hc t h12 T12
  have hc := add_k h13 ((F : Int) + 6) 3 3 (show _ = (4, f5 F) from addA_there (F := F + 6) (M := 3) (by omega) rfl (by omega) (by omega) (by omega) 2 (by omega) (by (try unfold f6); (try unfold f5); (try unfold f4); (try unfold f3); (try unfold f2); (try unfold f1); (try unfold setA); (try unfold noA); (try dsimp only); (repeat' split) <;> omega)) (by omega)
  go_wp2_with fail
  with_reducible refine hc.mono ?_
  rintro e w14 ⟨rfl, h14, t⟩
  have T14 := T13.transNew t (fun i hi e => by omega)
  clear hc t h13 T13
  have hc := cut_k h14 ((F : Int) + 5) 2 (show _ = (3, f5 F) from cutA_none (F := F + 5) (M := 2) (by omega) rfl (by omega) (by omega) 1 (by omega) (by (try unfold f6); (try unfold f5); (try unfold f4); (try unfold f3); (try unfold f2); (try unfold f1); (try unfold setA); (try unfold noA); (try dsimp only); (repeat' split) <;> omega)) (by omega)
  go_wp2_with fail
  with_reducible refine hc.mono ?_
  rintro e w15 ⟨rfl, h15, t⟩
  have T15 := T14.transNew t (fun i hi e => by omega)
  clear hc t h14 T14
  have hc := chg_k h15 ((F : Int) + 6) 1 3 (show _ = (3, f5 F) from chgA_none (F := F + 6) (M := 1) (by omega) rfl (by omega) (by omega) (by omega) 0 (by omega) (by (try unfold f6); (try unfold f5); (try unfold f4); (try unfold f3); (try unfold f2); (try unfold f1); (try unfold setA); (try unfold noA); (try dsimp only); (repeat' split) <;> omega)) (by omega)
  go_wp2_with fail
  with_reducible refine hc.mono ?_
  rintro e w16 ⟨rfl, h16, t⟩
  have T16 := T15.transNew t (fun i hi e => by omega)
  clear hc t h15 T15
  have hc := add_k h16 ((F : Int) + 6) 2 3 (show _ = (0, f6 F) from addA_ok (F := F + 6) (M := 2) (by omega) rfl (by omega) (by omega) (by omega) (fun k hk => by (try unfold f6); (try unfold f5); (try unfold f4); (try unfold f3); (try unfold f2); (try unfold f1); (try unfold setA); (try unfold noA); (try dsimp only); (repeat' split) <;> omega)) (by omega)
  go_wp2_with fail
  with_reducible refine hc.mono ?_
  rintro e w17 ⟨rfl, h17, t⟩
  have T17 := T16.transNew t (fun i hi e => by omega)
  clear hc t h16 T16
  have hP := pages_k h17 (pgs6 F hF)
  go_wp2_with fail
  with_reducible refine hP.mono ?_
  rintro e w18 ⟨a, cap, rfl, _, t, hc1, hc2⟩
  have h18 := h17.touch t (by simp [Nil])
  have T18 := T17.transNew t (fun i hi e => e.elim)
  clear hP t h17 T17
  have hL := list_k h18 rfl (runs6 F hF)
  go_wp2_with fail
  with_reducible refine hL.mono ?_
  rintro e w19 ⟨a, cap, rfl, _, t, hc1, hc2⟩
  have T19 := T18.transNew t (fun i hi e => e.elim)
  clear hL t h18 T18
  go_wp2_with fail
  with_reducible refine (wakes12 _).mono ?_
  rintro e w20 ⟨rfl, t⟩
  have T20 := T19.transNew t (fun i hi e => e.elim)
  clear t T19
  go_wp2_with fail
  go_ret
  exact ⟨rfl, T20⟩
end Go.Proofs.Ytehdaiagkonekaa

/-
  AreaErrors: its walk.
-/
import Derived.Test.YtehdaiagkonekaaAreaFormsW
namespace Go.Proofs.Ytehdaiagkonekaa
open Go.ChangeShapes Go.WideShapes Go.ChangeAt Go.RowKit

theorem RunsL.touchB {S : Nat → Prop} {w w' : World} {B o : Nat} {l : List Rn} (h : RunsL w (some ⟨B, o, none⟩) l) (t : Touch S w w') (hs : ¬ S B) : RunsL w' (some ⟨B, o, none⟩) l := by
  rcases h with h | ⟨b, o, e, hb, hc⟩
  · exact Or.inl h
  · cases e
    refine Or.inr ⟨B, o, rfl, Nat.lt_of_lt_of_le hb t.size, fun i x hx => ?_⟩
    have := hc i x hx
    unfold World.cell? at this ⊢
    rw [t.block B hb hs]; exact this
theorem addA_arg {R : Nat → Int} {f n r : Int} (h : f < 0 ∨ n < 1 ∨ 256 - f < n ∨ (r ≠ 0 ∧ r ≠ 1 ∧ r ≠ 3)) : addA R f n r = (1, R) := by
  unfold addA
  rw [if_pos]
  rw [Bool.and_eq_false_iff]
  by_cases q : 0 ≤ f ∧ 1 ≤ n ∧ n ≤ 256 - f
  · right
    rw [Bool.eq_false_iff, Ne, riP_iff]; omega
  · left
    rw [Bool.eq_false_iff, Ne, rowP_iff]; exact q
theorem chgA_arg {R : Nat → Int} {f n r : Int} (h : f < 0 ∨ n < 1 ∨ 256 - f < n ∨ (r ≠ 0 ∧ r ≠ 1 ∧ r ≠ 3)) : chgA R f n r = (1, R) := by
  unfold chgA
  rw [if_pos]
  rw [Bool.and_eq_false_iff]
  by_cases q : 0 ≤ f ∧ 1 ≤ n ∧ n ≤ 256 - f
  · right
    rw [Bool.eq_false_iff, Ne, riP_iff]; omega
  · left
    rw [Bool.eq_false_iff, Ne, rowP_iff]; exact q
theorem cutA_arg {R : Nat → Int} {f n : Int} (h : f < 0 ∨ n < 1 ∨ 256 - f < n) : cutA R f n = (1, R) := by
  unfold cutA
  rw [if_pos]
  rw [Bool.eq_false_iff, Ne, rowP_iff]; omega
def nine (N : Int) : List Rn := [⟨-N, 1, 1⟩, ⟨256 + N, 1, 1⟩, ⟨0, 0, 1⟩, ⟨0, -N, 1⟩, ⟨255, 1 + N, 1⟩, ⟨0, 256 + N, 1⟩, ⟨0, 1, 2⟩, ⟨0, 1, -N⟩, ⟨0, 1, 3 + N⟩]
def four (N : Int) : List Rn := [⟨-N, 1, 1⟩, ⟨256, 1, 1⟩, ⟨10, 0, 1⟩, ⟨10, 247, 1⟩]
def g1 : Nat → Int := setA noA 10 5 1
theorem nine_all (N : Int) (h : 1 ≤ N ∧ N ≤ 1000) : ∀ x ∈ nine N, addA g1 x.f x.n x.r = (1, g1) ∧ x.f ≤ 9223372036854775807 := by
  intro x hx
  simp only [nine, List.mem_cons, List.not_mem_nil, or_false] at hx
  rcases hx with rfl | rfl | rfl | rfl | rfl | rfl | rfl | rfl | rfl <;> exact ⟨addA_arg (by dsimp only; omega), by dsimp only; omega⟩
theorem four_all (N : Int) (h : 1 ≤ N ∧ N ≤ 1000) : ∀ x ∈ four N, cutA g1 x.f x.n = (1, g1) ∧ chgA g1 x.f x.n 1 = (1, g1) ∧ x.f ≤ 9223372036854775807 := by
  intro x hx
  simp only [four, List.mem_cons, List.not_mem_nil, or_false] at hx
  rcases hx with rfl | rfl | rfl | rfl <;> exact ⟨cutA_arg (by dsimp only; omega), chgA_arg (by dsimp only; omega), by dsimp only; omega⟩
set_option maxRecDepth 20000 in
set_option maxHeartbeats 2000000 in
theorem areaErrors_walk (a0 : Int) (w : World) : Calls Try.prog 4 #[.int .i64 a0] w fun e w' => e = .returned (.bool true) ∧ Touch Nil w w' := by
  have hW := fun w1 => within_any a0 1000 w1 (by decide) (by decide)
  obtain ⟨n0, hF, hF'⟩ : ∃ n0 : Int, (0 ≤ n0 ∧ n0 < 1000) ∧ a0 % 1000 = n0 := ⟨a0 % 1000, by omega, rfl⟩
  rw [hF'] at hW
  clear hF'
  obtain ⟨N, hN, hNN⟩ : ∃ N : Int, Hid (1 + n0 = N) ∧ 1 ≤ N ∧ N ≤ 1000 := ⟨1 + n0, rfl, by omega, by omega⟩
  have q0 : IntKind.i64.wrap (1 + n0) = N := by rw [IntKind.wrap_i64]; have := hN.out; omega
  have q1 : IntKind.i64.wrap (-N) = -N := by rw [IntKind.wrap_i64]; omega
  have q2 : IntKind.i64.wrap (256 + N) = 256 + N := by rw [IntKind.wrap_i64]; omega
  have q3 : IntKind.i64.wrap (1 + N) = 1 + N := by rw [IntKind.wrap_i64]; omega
  have q4 : IntKind.i64.wrap (3 + N) = 3 + N := by rw [IntKind.wrap_i64]; omega
  go_enter Try.func4, Try.ntmps4
  go_wp2_with fail
  with_reducible refine (hW w).mono ?_
  rintro e wq ⟨rfl, rfl⟩
  clear hW
  go_wp2_with fail
  with_reducible refine (anew_any w).mono ?_
  rintro e w1 ⟨rfl, h1, T1, s1⟩
  generalize hB : w.heap.size = B at *
  have hc := add_k h1 10 5 1 (show _ = (0, g1) from addA_ok (F := 10) (M := 5) rfl rfl (by omega) (by omega) (by omega) (fun k hk => by show (-1 : Int) < 0; omega)) (by omega)
  go_wp2_with fail
  with_reducible refine hc.mono ?_
  rintro e w2 ⟨rfl, h2, t⟩
  have T2 := T1.transNew t (fun i hi e => by omega)
  have s2 := t.size
  clear hc t h1 T1
  go_wp2_with fail
  change Code.wp _ _ _ _ (w2.alloc (.cells (flatR (nine N)).toArray 39))
  have hR := lit_runs w2 39 (nine N)
  have tL := (Touch.refl Nil w2).alloc (.cells (flatR (nine N)).toArray 39)
  have h3 := h2.touch tL (by simp [Nil])
  have T3 := T2.trans tL
  have hBl : B < w2.heap.size := h2.lt
  have h9 := nine_all N hNN
  have l9 : (nine N).length = 9 := rfl
  have h4 := four_all N hNN
  clear h2 T2 tL
  generalize w2.alloc (.cells (flatR (nine N)).toArray 39) = w3 at *
  generalize w2.heap.size = Bl at *
  generalize nine N = L9 at *
  go_loopg [5, 44] 9 (fun g u i wr => ∃ j : Nat, g + j = 9 ∧ i = .int .i64 j ∧ Aside (RunsL wr (some ⟨Bl, 0, none⟩) L9) ∧ Aside (AAt wr B g1) ∧ Aside (Touch Nil w wr))
  case atStart => exact ⟨0, by omega, rfl, hR, h3, T3⟩
  case round =>
    clear hR h3 T3
    obtain ⟨j, hgj, rfl, hL, hA, tk⟩ := hrel
    by_cases hlt : j < 9
    · have j1 : (j : Int) < 9 := by omega
      obtain ⟨x, hx, hxm⟩ : ∃ x, L9[j]? = some x ∧ x ∈ L9 := ⟨L9[j]'(by omega), List.getElem?_eq_getElem _, List.getElem_mem _⟩
      obtain ⟨ex, fx⟩ := h9 x hxm
      obtain ⟨c0, c1, c2⟩ : wr.cell? ⟨Bl, j * 3, none⟩ = some (.int .i64 x.f) ∧ wr.cell? ⟨Bl, j * 3 + 1, none⟩ = some (.int .i64 x.n) ∧ wr.cell? ⟨Bl, j * 3 + 2, none⟩ = some (.int .i64 x.r) := by
        rcases hL.out with e | ⟨b', o', e, _, hc⟩
        · rw [e] at l9; cases l9
        · cases e
          have := hc j x hx
          simpa using this
      have hC := fun w4 (t4 : Touch Nil wr w4) => add_k (hA.out.touch t4 (by simp [Nil])) x.f x.n x.r ex fx
      obtain ⟨xf, xn, xr⟩ := x
      dsimp only at c0 c1 c2 hC
      have tA := (Touch.refl Nil wr).alloc (.cells #[.int .i64 xf, .int .i64 xn, .int .i64 xr] 39)
      have hC' := hC _ tA
      clear hC ex fx hxm hx h9 h4
      go_wp2_with fail
      with_reducible refine hC'.mono ?_
      rintro e w5 ⟨rfl, h5, t5⟩
      have T5 : Aside (Touch Nil w w5) := (tk.out.trans tA).transNew t5 (fun i hi e => by omega)
      have hL5 : Aside (RunsL w5 (some ⟨Bl, 0, none⟩) L9) := (hL.out.touch tA).touchB t5 (by omega)
      have hA5 : Aside (AAt w5 B g1) := h5
      clear hC' c0 c1 c2 hL hA tk t5 h5 tA
      go_wp2_with fail
      go_roundg (9 - (j + 1))
      case measure => omega
      case rel => exact ⟨j + 1, by omega, by go_num, hL5, hA5, T5⟩
    · have e : j = 9 := by omega
      subst e
      clear h9 l9
      go_wp2_with fail
      change Code.wp _ _ _ _ (wr.alloc (.cells (flatR (four N)).toArray 39))
      have hR := lit_runs wr 39 (four N)
      have tL := (Touch.refl Nil wr).alloc (.cells (flatR (four N)).toArray 39)
      have h3 := hA.out.touch tL (by simp [Nil])
      have T3 := tk.out.trans tL
      have hBm : B < wr.heap.size := hA.out.lt
      have l4 : (four N).length = 4 := rfl
      clear hL hA tk tL
      generalize wr.alloc (.cells (flatR (four N)).toArray 39) = w4 at *
      generalize wr.heap.size = Bm at *
      generalize four N = L4 at *
      go_loopg [7, 66] 4 (fun g u i wx => ∃ j : Nat, g + j = 4 ∧ i = .int .i64 j ∧ Aside (RunsL wx (some ⟨Bm, 0, none⟩) L4) ∧ Aside (AAt wx B g1) ∧ Aside (Touch Nil w wx))
      case atStart => exact ⟨0, by omega, rfl, hR, h3, T3⟩
      case round =>
        clear hR h3 T3
        obtain ⟨j, hgj, rfl, hL, hA, tk⟩ := hrel
        by_cases hlt : j < 4
        · have j1 : (j : Int) < 4 := by omega
          obtain ⟨x, hx, hxm⟩ : ∃ x, L4[j]? = some x ∧ x ∈ L4 := ⟨L4[j]'(by omega), List.getElem?_eq_getElem _, List.getElem_mem _⟩
          obtain ⟨ex, ex2, fx⟩ := h4 x hxm
          obtain ⟨xf, xn, xr⟩ := x
          dsimp only at ex ex2 fx
          obtain ⟨c0, c1, c2⟩ : wr.cell? ⟨Bm, j * 3, none⟩ = some (.int .i64 xf) ∧ wr.cell? ⟨Bm, j * 3 + 1, none⟩ = some (.int .i64 xn) ∧ wr.cell? ⟨Bm, j * 3 + 2, none⟩ = some (.int .i64 xr) := by
            rcases hL.out with e | ⟨b', o', e, _, hc⟩
            · rw [e] at l4; cases l4
            · cases e
              have := hc j _ hx
              simpa using this
          have tA := (Touch.refl Nil wr).alloc (.cells #[.int .i64 xf, .int .i64 xn, .int .i64 xr] 39)
          have hn := heap_alloc_new wr (.cells #[.int .i64 xf, .int .i64 xn, .int .i64 xr] 39)
          have hC := cut_k (hA.out.touch tA (by simp [Nil])) xf xn ex fx
          have hBw : B < wr.heap.size := hA.out.lt
          have sA : (wr.alloc (.cells #[.int .i64 xf, .int .i64 xn, .int .i64 xr] 39)).heap.size = wr.heap.size + 1 := by simp
          clear ex hxm hx h4
          go_wp2_with fail
          with_reducible refine hC.mono ?_
          rintro e w5 ⟨rfl, h5, t5⟩
          have T5 := (tk.out.trans tA).transNew t5 (fun i hi e => by omega)
          have hL5 := (hL.out.touch tA).touchB t5 (by omega)
          have d0 : w5.cell? ⟨wr.heap.size, 0, none⟩ = some (.int .i64 xf) ∧ w5.cell? ⟨wr.heap.size, 1, none⟩ = some (.int .i64 xn) := by
            unfold World.cell?
            rw [(t5.block wr.heap.size (by omega) (by omega)).trans hn]
            exact ⟨rfl, rfl⟩
          obtain ⟨d0, d1⟩ := d0
          have hC2 := chg_k h5 xf xn 1 ex2 fx
          clear hC c0 c1 c2 hL hA tk t5 h5 tA ex2 fx hn
          go_wp2_with fail
          with_reducible refine hC2.mono ?_
          rintro e w6 ⟨rfl, h6, t6⟩
          have T6 : Aside (Touch Nil w w6) := T5.transNew t6 (fun i hi e => by omega)
          have hL6 : Aside (RunsL w6 (some ⟨Bm, 0, none⟩) L4) := hL5.touchB t6 (by omega)
          have hA6 : Aside (AAt w6 B g1) := h6
          clear hC2 d0 d1 T5 hL5 t6 h6
          go_wp2_with fail
          go_roundg (4 - (j + 1))
          case measure => omega
          case rel => exact ⟨j + 1, by omega, by go_num, hL6, hA6, T6⟩
        · have e : j = 4 := by omega
          subst e
          have h1 : AAt wr B g1 := hA.out
          have T1 := tk.out
          clear h4 l4 hL hA tk
          have hc := chg_k h1 10 5 2 (show _ = (1, g1) from chgA_arg (by omega)) (by omega)
          go_wp2_with fail
          with_reducible refine hc.mono ?_
          rintro e v2 ⟨rfl, h2, t⟩
          have T2 := T1.transNew t (fun i hi e => by omega)
          clear hc t h1 T1
          have hc := cut_k h2 9 2 (show _ = (3, g1) from cutA_none (F := 9) (M := 2) rfl rfl (by omega) (by omega) 0 (by omega) (by unfold g1 setA noA; (repeat' split) <;> omega)) (by omega)
          go_wp2_with fail
          with_reducible refine hc.mono ?_
          rintro e v3 ⟨rfl, h3, t⟩
          have T3 := T2.transNew t (fun i hi e => by omega)
          clear hc t h2 T2
          have hc := chg_k h3 14 2 3 (show _ = (3, g1) from chgA_none (F := 14) (M := 2) rfl rfl (by omega) (by omega) (by omega) 1 (by omega) (by unfold g1 setA noA; (repeat' split) <;> omega)) (by omega)
          go_wp2_with fail
          with_reducible refine hc.mono ?_
          rintro e v4 ⟨rfl, h4, t⟩
          have T4 := T3.transNew t (fun i hi e => by omega)
          clear hc t h3 T3
          have hc := add_k h4 0 11 1 (show _ = (4, g1) from addA_there (F := 0) (M := 11) rfl rfl (by omega) (by omega) (by omega) 10 (by omega) (by unfold g1 setA noA; (repeat' split) <;> omega)) (by omega)
          go_wp2_with fail
          with_reducible refine hc.mono ?_
          rintro e v5 ⟨rfl, h5, t⟩
          have T5 := T4.transNew t (fun i hi e => by omega)
          clear hc t h4 T4
          have hl := list_k h5 (show runsK g1 256 = [⟨10, 5, 1⟩] from runsK_one 10 5 1 (by omega) (by omega) (by omega)) (n := 1) rfl
          go_wp2_with fail
          with_reducible refine hl.mono ?_
          rintro e v6 ⟨a, cap, rfl, hr, t, hc1, hc2⟩
          have h6 := h5.touch t (by simp [Nil])
          have T6 := T5.transNew t (fun i hi e => e.elim)
          clear hl t h5 T5
          have tL := (Touch.refl Nil v6).alloc (.cells (flatR [⟨10, 5, 1⟩]).toArray 29)
          have hS := rsame_any (hr.touch tL) (lit_runs v6 29 [⟨10, 5, 1⟩]) 1 rfl (by omega) cap 1
          have hh := h6.touch tL (by simp [Nil])
          have TT := T6.trans tL
          clear hr tL h6 T6
          go_wp2_with fail
          refine hS.mono ?_
          rintro e v7 ⟨rfl, t⟩
          have h7 := hh.touch t (by simp [Nil])
          have T7 := TT.transNew t (fun i hi e => e.elim)
          clear hS t hh TT
          have hc := add_k h7 255 1 3 (show _ = (0, setA g1 255 1 3) from addA_ok (F := 255) (M := 1) rfl rfl (by omega) (by omega) (by omega) (fun k hk => by unfold g1 setA noA; (repeat' split) <;> omega)) (by omega)
          go_wp2_with fail
          with_reducible refine hc.mono ?_
          rintro e v8 ⟨rfl, h8, t⟩
          have T8 := T7.transNew t (fun i hi e => by omega)
          clear hc t h7 T7
          go_wp2_with fail
          with_reducible refine (wakes12 _).mono ?_
          rintro e v9 ⟨rfl, t⟩
          have T9 := T8.transNew t (fun i hi e => e.elim)
          clear t T8
          go_wp2_with fail
          go_ret
          exact ⟨rfl, T9⟩
end Go.Proofs.Ytehdaiagkonekaa

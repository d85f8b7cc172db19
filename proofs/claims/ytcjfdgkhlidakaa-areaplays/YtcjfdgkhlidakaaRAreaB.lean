/-
  The document's areas: Add, Cut, Change, Rights, Pages, List; both held against each other.
-/
import Derived.Test.YtcjfdgkhlidakaaRAreaA
import Derived.Test.YtcjfdgkhlidakaaAreaG
namespace Go.Proofs.Ytcjfdgkhlidakaa
open Go.ChangeShapes Go.WideShapes Go.ChangeAt Go.RowKit

set_option maxHeartbeats 1000000 in
theorem radd_any {w : World} {b : Nat} {R : Nat → Int} (h : RAt w b R) (f n r : Int) :
    Calls Try.prog 8 #[.pointer (some ⟨b, 0, none⟩), .int .i64 f, .int .i64 n, .int .i64 r] w fun e w' => e = .returned (.int .i64 (addA R f n r).1) ∧ RAt w' b (addA R f n r).2 ∧ Touch (· = b) w w' := by
  have hI := span_any f n w
  have hr := rFine_any r w
  cases e1 : rowP f n with
  | false =>
    have e : addA R f n r = (1, R) := by unfold addA; rw [e1]; rfl
    rw [e]
    rw [e1] at hI
    go_enter Try.func8, Try.ntmps8
    go_wp2_with fail
    with_reducible refine hI.mono ?_
    rintro e wq ⟨rfl, rfl⟩
    go_wp2_with fail
    go_ret
    exact ⟨rfl, h, Touch.refl _ _⟩
  | true =>
    rw [e1] at hI
    cases e2 : riP r with
    | false =>
      have e : addA R f n r = (1, R) := by unfold addA; rw [e1, e2]; rfl
      rw [e]
      rw [e2] at hr
      go_enter Try.func8, Try.ntmps8
      go_wp2_with fail
      with_reducible refine hI.mono ?_
      rintro e wq ⟨rfl, rfl⟩
      go_wp2_with fail
      with_reducible refine hr.mono ?_
      rintro e wq ⟨rfl, rfl⟩
      go_wp2_with fail
      go_ret
      exact ⟨rfl, h, Touch.refl _ _⟩
    | true =>
    rw [e2] at hr
    obtain ⟨f0, n1, fn⟩ := (rowP_iff f n).1 e1
    obtain ⟨F, rfl⟩ : ∃ F : Nat, f = F := ⟨f.toNat, by omega⟩
    obtain ⟨M, rfl⟩ : ∃ M : Nat, n = M := ⟨n.toNat, by omega⟩
    have hC := all_any h F M (by omega) false
    have hF := fun w4 (t4 : Touch Nil w w4) => setR_any (h.touch t4 (by simp [Nil])) F M (by omega) r
    rw [allA_no] at hC
    by_cases h0 : cntA R F M = 0
    · have e : addA R F M r = (0, setA R F M r) := by unfold addA; rw [e1, e2]; simp only [Int.toNat_natCast, h0]; rfl
      rw [e]
      clear e
      rw [decide_eq_true h0] at hC
      clear h0
      go_enter Try.func8, Try.ntmps8
      go_wp2_with fail
      with_reducible refine hI.mono ?_
      rintro e wq ⟨rfl, rfl⟩
      go_wp2_with fail
      with_reducible refine hr.mono ?_
      rintro e wq ⟨rfl, rfl⟩
      clear hr
      go_wp2_with fail
      with_reducible refine hC.mono ?_
      rintro e w4 ⟨rfl, t4⟩
      have hF4 := hF w4 t4
      clear hI hC hF h
      go_wp2_with fail
      with_reducible refine hF4.mono ?_
      rintro e w5 ⟨rfl, h5, t5⟩
      go_wp2_with fail
      go_ret
      exact ⟨rfl, h5, (t4.mono (fun _ _ q => q.elim)).trans t5⟩
    · have e : addA R F M r = (4, R) := by unfold addA; rw [e1, e2]; simp only [Int.toNat_natCast, if_neg h0]; rfl
      rw [e]
      clear e
      rw [decide_eq_false h0] at hC
      clear h0
      go_enter Try.func8, Try.ntmps8
      go_wp2_with fail
      with_reducible refine hI.mono ?_
      rintro e wq ⟨rfl, rfl⟩
      go_wp2_with fail
      with_reducible refine hr.mono ?_
      rintro e wq ⟨rfl, rfl⟩
      clear hr
      go_wp2_with fail
      with_reducible refine hC.mono ?_
      rintro e w4 ⟨rfl, t4⟩
      clear hI hC hF
      go_wp2_with fail
      go_ret
      exact ⟨rfl, h.touch t4 (by simp [Nil]), t4.mono (fun _ _ q => q.elim)⟩
set_option maxHeartbeats 1000000 in
theorem rcut_any {w : World} {b : Nat} {R : Nat → Int} (h : RAt w b R) (f n : Int) :
    Calls Try.prog 10 #[.pointer (some ⟨b, 0, none⟩), .int .i64 f, .int .i64 n] w fun e w' => e = .returned (.int .i64 (cutA R f n).1) ∧ RAt w' b (cutA R f n).2 ∧ Touch (· = b) w w' := by
  have hI := span_any f n w
  cases e1 : rowP f n with
  | false =>
    have e : cutA R f n = (1, R) := by unfold cutA; rw [e1]; rfl
    rw [e]
    rw [e1] at hI
    go_enter Try.func10, Try.ntmps10
    go_wp2_with fail
    with_reducible refine hI.mono ?_
    rintro e wq ⟨rfl, rfl⟩
    go_wp2_with fail
    go_ret
    exact ⟨rfl, h, Touch.refl _ _⟩
  | true =>
    rw [e1] at hI
    obtain ⟨f0, n1, fn⟩ := (rowP_iff f n).1 e1
    obtain ⟨F, rfl⟩ : ∃ F : Nat, f = F := ⟨f.toNat, by omega⟩
    obtain ⟨M, rfl⟩ : ∃ M : Nat, n = M := ⟨n.toNat, by omega⟩
    have hC := all_any h F M (by omega) true
    have hF := fun w4 (t4 : Touch Nil w w4) => setR_any (h.touch t4 (by simp [Nil])) F M (by omega) (-1)
    rw [allA_yes] at hC
    by_cases h0 : cntA R F M = M
    · have e : cutA R F M = (0, setA R F M (-1)) := by unfold cutA; rw [e1]; simp only [Int.toNat_natCast, h0]; rfl
      rw [e]
      clear e
      rw [decide_eq_true h0] at hC
      clear h0
      go_enter Try.func10, Try.ntmps10
      go_wp2_with fail
      with_reducible refine hI.mono ?_
      rintro e wq ⟨rfl, rfl⟩
      go_wp2_with fail
      with_reducible refine hC.mono ?_
      rintro e w4 ⟨rfl, t4⟩
      have hF4 := hF w4 t4
      clear hI hC hF h
      go_wp2_with fail
      with_reducible refine hF4.mono ?_
      rintro e w5 ⟨rfl, h5, t5⟩
      go_wp2_with fail
      go_ret
      exact ⟨rfl, h5, (t4.mono (fun _ _ q => q.elim)).trans t5⟩
    · have e : cutA R F M = (3, R) := by unfold cutA; rw [e1]; simp only [Int.toNat_natCast, if_neg h0]; rfl
      rw [e]
      clear e
      rw [decide_eq_false h0] at hC
      clear h0
      go_enter Try.func10, Try.ntmps10
      go_wp2_with fail
      with_reducible refine hI.mono ?_
      rintro e wq ⟨rfl, rfl⟩
      go_wp2_with fail
      with_reducible refine hC.mono ?_
      rintro e w4 ⟨rfl, t4⟩
      clear hI hC hF
      go_wp2_with fail
      go_ret
      exact ⟨rfl, h.touch t4 (by simp [Nil]), t4.mono (fun _ _ q => q.elim)⟩
set_option maxHeartbeats 1000000 in
theorem rchg_any {w : World} {b : Nat} {R : Nat → Int} (h : RAt w b R) (f n r : Int) :
    Calls Try.prog 12 #[.pointer (some ⟨b, 0, none⟩), .int .i64 f, .int .i64 n, .int .i64 r] w fun e w' => e = .returned (.int .i64 (chgA R f n r).1) ∧ RAt w' b (chgA R f n r).2 ∧ Touch (· = b) w w' := by
  have hI := span_any f n w
  have hr := rFine_any r w
  cases e1 : rowP f n with
  | false =>
    have e : chgA R f n r = (1, R) := by unfold chgA; rw [e1]; rfl
    rw [e]
    rw [e1] at hI
    go_enter Try.func12, Try.ntmps12
    go_wp2_with fail
    with_reducible refine hI.mono ?_
    rintro e wq ⟨rfl, rfl⟩
    go_wp2_with fail
    go_ret
    exact ⟨rfl, h, Touch.refl _ _⟩
  | true =>
    rw [e1] at hI
    cases e2 : riP r with
    | false =>
      have e : chgA R f n r = (1, R) := by unfold chgA; rw [e1, e2]; rfl
      rw [e]
      rw [e2] at hr
      go_enter Try.func12, Try.ntmps12
      go_wp2_with fail
      with_reducible refine hI.mono ?_
      rintro e wq ⟨rfl, rfl⟩
      go_wp2_with fail
      with_reducible refine hr.mono ?_
      rintro e wq ⟨rfl, rfl⟩
      go_wp2_with fail
      go_ret
      exact ⟨rfl, h, Touch.refl _ _⟩
    | true =>
    rw [e2] at hr
    obtain ⟨f0, n1, fn⟩ := (rowP_iff f n).1 e1
    obtain ⟨F, rfl⟩ : ∃ F : Nat, f = F := ⟨f.toNat, by omega⟩
    obtain ⟨M, rfl⟩ : ∃ M : Nat, n = M := ⟨n.toNat, by omega⟩
    have hC := all_any h F M (by omega) true
    have hF := fun w4 (t4 : Touch Nil w w4) => setR_any (h.touch t4 (by simp [Nil])) F M (by omega) r
    rw [allA_yes] at hC
    by_cases h0 : cntA R F M = M
    · have e : chgA R F M r = (0, setA R F M r) := by unfold chgA; rw [e1, e2]; simp only [Int.toNat_natCast, h0]; rfl
      rw [e]
      clear e
      rw [decide_eq_true h0] at hC
      clear h0
      go_enter Try.func12, Try.ntmps12
      go_wp2_with fail
      with_reducible refine hI.mono ?_
      rintro e wq ⟨rfl, rfl⟩
      go_wp2_with fail
      with_reducible refine hr.mono ?_
      rintro e wq ⟨rfl, rfl⟩
      clear hr
      go_wp2_with fail
      with_reducible refine hC.mono ?_
      rintro e w4 ⟨rfl, t4⟩
      have hF4 := hF w4 t4
      clear hI hC hF h
      go_wp2_with fail
      with_reducible refine hF4.mono ?_
      rintro e w5 ⟨rfl, h5, t5⟩
      go_wp2_with fail
      go_ret
      exact ⟨rfl, h5, (t4.mono (fun _ _ q => q.elim)).trans t5⟩
    · have e : chgA R F M r = (3, R) := by unfold chgA; rw [e1, e2]; simp only [Int.toNat_natCast, if_neg h0]; rfl
      rw [e]
      clear e
      rw [decide_eq_false h0] at hC
      clear h0
      go_enter Try.func12, Try.ntmps12
      go_wp2_with fail
      with_reducible refine hI.mono ?_
      rintro e wq ⟨rfl, rfl⟩
      go_wp2_with fail
      with_reducible refine hr.mono ?_
      rintro e wq ⟨rfl, rfl⟩
      clear hr
      go_wp2_with fail
      with_reducible refine hC.mono ?_
      rintro e w4 ⟨rfl, t4⟩
      clear hI hC hF
      go_wp2_with fail
      go_ret
      exact ⟨rfl, h.touch t4 (by simp [Nil]), t4.mono (fun _ _ q => q.elim)⟩
set_option maxRecDepth 20000 in
set_option maxHeartbeats 1000000 in
theorem rrights_any {w : World} {b : Nat} {R : Nat → Int} (h : RAt w b R) (p : Int) :
    Calls Try.prog 16 #[.pointer (some ⟨b, 0, none⟩), .int .i64 p] w fun e w' => e = .returned (.tuple #[.int .i64 (rtsA R p).1, .bool (rtsA R p).2]) ∧ Touch Nil w w' := by
  by_cases hp : 0 ≤ p ∧ p < 256
  · obtain ⟨P, rfl⟩ : ∃ P : Nat, p = P := ⟨p.toNat, by omega⟩
    have g1 : (P : Int) < 256 := by omega
    have c0 := h.cel (k := P) (by omega)
    rw [rtsA_yes (P := P) rfl (by omega)]
    unfold rt
    generalize R P = x at *
    by_cases hx : x < 0
    · have d1 : decide (x < 0) = true := by simpa using hx
      rw [if_pos hx, show decide (0 ≤ x) = false by simp; omega]
      clear hx
      go_enter Try.func16, Try.ntmps16
      go_wp2_with fail
      go_ret2
      exact ⟨rfl, Touch.refl _ _⟩
    · have d1 : decide (x < 0) = false := by simpa using hx
      rw [if_neg hx, show decide (0 ≤ x) = true by simp; omega]
      clear hx
      go_enter Try.func16, Try.ntmps16
      go_wp2_with fail
      go_ret2
      exact ⟨rfl, Touch.refl _ _⟩
  · have e : rtsA R p = (0, false) := by
      unfold rtsA
      rw [if_neg]
      rw [rowP_iff]; omega
    rw [e]
    clear e
    have hq : decide (p < 0) = true ∨ (decide (p < 0) = false ∧ decide (256 ≤ p) = true) := by
      by_cases q : p < 0
      · exact Or.inl (by simpa using q)
      · exact Or.inr ⟨by simpa using q, by simp; omega⟩
    go_enter Try.func16, Try.ntmps16
    rcases hq with q1 | ⟨q1, q2⟩ <;>
    · go_wp2_with fail
      go_ret2
      exact ⟨rfl, Touch.refl _ _⟩
def cellsR (R : Nat → Int) : List Value := (List.range 256).map (fun k => Value.int .i64 (R k))
theorem cellsR_len (R : Nat → Int) : (cellsR R).length = 256 := by simp [cellsR]
theorem cellsR_get (R : Nat → Int) {i : Nat} (hi : i < 256) : (cellsR R)[i]? = some (.int .i64 (R i)) := by simp [cellsR, hi]
theorem RAt.range {w : World} {b : Nat} {R : Nat → Int} (h : RAt w b R) : w.rangeAt b 0 (cellsR R) := fun j v hv => by
  have hj : j < 256 := by have := (List.getElem?_eq_some_iff.1 hv).1; rwa [cellsR_len] at this
  rw [cellsR_get R hj] at hv
  cases hv
  rw [Nat.zero_add, World.rowIs.cell h hj]
set_option maxRecDepth 20000 in
theorem index_R (R : Nat → Int) (k : Nat) (hk : k < 256) (w : World) :
    (Instr.index 41 (.agg (cellsR R).toArray) (.int .i64 k)).run Try.prog w = .ok (.int .i64 (R k)) w := by
  have e1 := cellsR_get R hk
  have hu : Try.prog.underlying 41 = some (.array 256 3) := by kernel_rfl
  obtain ⟨i, hi, hz⟩ := Option.map_eq_some_iff.1 (show (Try.prog.info? 3).map (fun i => i.size) = some 1 by kernel_rfl)
  simp [Instr.index, asIntOf, run_underlying hu, Sem.run_bind, part, sizeOf, typeInfo, hi, hz, hk, e1]
set_option maxRecDepth 20000 in
set_option maxHeartbeats 1000000 in
theorem rpages_any {w : World} {b : Nat} {R : Nat → Int} (h : RAt w b R) :
    Calls Try.prog 28 #[.pointer (some ⟨b, 0, none⟩)] w fun e w' => (∃ v, e = .returned v ∧ w'.ownsRow w.heap.size 3 1 v (pgsA R 256).length (ilist (pgsA R 256))) ∧ Touch Nil w w' := by
  have hr := h.range
  have hl := cellsR_len R
  go_enter Try.func28, Try.ntmps28
  go_wp2_with fail
  refine wp_load_mid 41 (.tmp 8) rfl b 0 rfl (cellsR R) _ hr Try.underlying41 rfl (by rw [hl]; kernel_rfl) ?_
  have hix := index_R R
  generalize (cellsR R).toArray = CA at *
  clear hr hl
  apply_assumption
  go_wp2_with fail
  go_loopg [3, 4, 5, 10] 256 (fun g v p u i wr => ∃ k : Nat, g + k = 256 ∧ i = .int .i64 k ∧ Aside (wr.ownsRow w.heap.size 3 1 v (pgsA R k).length (ilist (pgsA R k))) ∧ Aside (Touch Nil w wr))
  case atStart => exact ⟨0, by omega, rfl, World.ownsRow_nil _ _ _ _, Touch.refl _ w⟩
  case round =>
    obtain ⟨k, hgk, rfl, hO, tk⟩ := hrel
    by_cases hk : k < 256
    · have k1 : (k : Int) < 256 := by omega
      have hx := hix k hk
      clear hix
      obtain ⟨x, hxx⟩ : ∃ x, Hid (R k = x) := ⟨_, rfl⟩
      rw [hxx.out] at hx
      cases hd : decide (0 ≤ x)
      · have hn : pgsA R (k + 1) = pgsA R k := by rw [pgsA, hxx.out, if_neg (by simpa using hd)]; simp
        go_wp2_with fail
        go_roundg (256 - (k + 1))
        case measure => omega
        case rel => exact ⟨k + 1, by omega, by go_num, by rw [hn]; exact hO, tk⟩
      · have hn : pgsA R (k + 1) = pgsA R k ++ [(k : Int)] := by rw [pgsA, hxx.out, if_pos (by simpa using hd)]
        have hll := pgsA_len R k
        obtain ⟨g', c', wN, hrun, hN, bN⟩ := app_int hO.out tk.out.size (by omega) (k : Int)
        have tN : Aside (Touch Nil w wN) := tk.out.ofBase bN
        have hNa : Aside _ := hN
        clear hN bN hO tk
        go_upto_region 6 with fail
        go_wp2_with (at_builtin; refine Lib.wpList_append_run_sl _ rfl _ _ 22 rfl _ _ rfl rfl hrun ?_)
        go_roundg (256 - (k + 1))
        case measure => omega
        case rel => exact ⟨k + 1, by omega, by go_num, by rw [hn, List.length_append, ilist, List.map_append]; exact hNa, tN⟩
    · have e : Hid (k = 256) := by show k = 256; omega
      have kd : decide ((k : Int) < 256) = false := by simp; omega
      clear hix hgk hk
      go_wp2_with fail
      go_ret
      rw [← e.out]
      exact ⟨⟨_, rfl, hO.out⟩, tk.out⟩
end Go.Proofs.Ytcjfdgkhlidakaa

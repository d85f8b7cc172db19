/-
  The document's scheduler: a new one (written by tools/gen/rs.py).
-/
import Derived.Test.YtlhppmhacdoilaaRSchC
import Derived.Test.YtlhppmhacdoilaaRegionM
import Derived.Test.YtlhppmhacdoilaaRows3
namespace Go.Proofs.Ytlhppmhacdoilaa
open Go.ChangeShapes Go.WideShapes Go.ChangeAt Go.RowKit

/-- While it is made: k CPUs are there. -/
structure RNw (w : World) (k : Nat) (aO : Option Addr) (cO : Nat) (aL : Option Addr) (cL : Nat) (wr : World) : Prop where
  row : wr.rowIs w.heap.size 35 6 (fun i => if i < 4 then .bool false else if i = 4 then .slice aO k cO else .slice aL k cL)
  on : NL wr aO cO (List.replicate k (-1))
  la : NL wr aL cL (List.replicate k 3)
  ne : ∀ j, blkA aO j → ¬ blkA aL j
  lO : ∀ j, blkA aO j → w.heap.size < j
  lL : ∀ j, blkA aL j → w.heap.size < j
  t : Touch Nil w wr
/-- What step lists: both, in whatever world behind the making, the row as it was. -/
structure RMd (w : World) (k : Nat) (aO : Option Addr) (cO : Nat) (aL : Option Addr) (cL : Nat) (lO lL : List Int) (vO vL : Value) (wr : World) : Prop where
  row : wr.rowIs w.heap.size 35 6 (fun i => if i < 4 then .bool false else if i = 4 then vO else vL)
  on : NL wr aO cO lO
  la : NL wr aL cL lL
  ne : ∀ j, blkA aO j → ¬ blkA aL j
  lO : ∀ j, blkA aO j → w.heap.size < j
  lL : ∀ j, blkA aL j → w.heap.size < j
  t : Touch Nil w wr
namespace RMd
variable {w wr w' : World} {k : Nat} {aO aL : Option Addr} {cO cL : Nat} {lO lL : List Int} {vO vL : Value}
theorem nil (h : RMd w k aO cO aL cL lO lL vO vL wr) (t : Touch Nil wr w') : RMd w k aO cO aL cL lO lL vO vL w' :=
  ⟨t.row h.row id, h.on.touch t (fun _ _ => id), h.la.touch t (fun _ _ => id), h.ne, h.lO, h.lL, h.t.trans t⟩
theorem S (h : RMd w k aO cO aL cL lO lL vO vL wr) : wr.cell? ⟨w.heap.size, 4, none⟩ = some vO ∧ wr.cell? ⟨w.heap.size, 5, none⟩ = some vL :=
  ⟨h.row.cell (i := 4) (by omega), h.row.cell (i := 5) (by omega)⟩
theorem appO (h : RMd w k aO cO aL cL lO lL vO vL wr) (t : Touch (fun j => blkA aO j) wr w') {g cap : Nat} (hN : NL w' (some ⟨g, 0, none⟩) cap (lO ++ [-1])) (hg : blkA aO g ∨ wr.heap.size ≤ g) : RMd w k (some ⟨g, 0, none⟩) cap aL cL (lO ++ [-1]) lL vO vL w' := by
  have hlt : w.heap.size < wr.heap.size := h.row.lt
  refine ⟨t.row h.row (fun q => by have := h.lO _ q; omega), hN, h.la.touch t (fun j hj q => h.ne j q hj), fun j hj => ?_, fun j hj => ?_, h.lL, h.t.transNew t (fun i hi q => by have := h.lO _ q; omega)⟩
  · obtain ⟨o, e⟩ := hj
    cases e
    rcases hg with hg | hg
    · exact h.ne _ hg
    · exact fun q => by have := h.la.lt q; omega
  · obtain ⟨o, e⟩ := hj
    cases e
    rcases hg with hg | hg
    · exact h.lO _ hg
    · omega
theorem appL (h : RMd w k aO cO aL cL lO lL vO vL wr) (t : Touch (fun j => blkA aL j) wr w') {g cap : Nat} (hN : NL w' (some ⟨g, 0, none⟩) cap (lL ++ [3])) (hg : blkA aL g ∨ wr.heap.size ≤ g) : RMd w k aO cO (some ⟨g, 0, none⟩) cap lO (lL ++ [3]) vO vL w' := by
  have hlt : w.heap.size < wr.heap.size := h.row.lt
  refine ⟨t.row h.row (fun q => by have := h.lL _ q; omega), h.on.touch t (fun j hj q => h.ne j hj q), hN, fun j hj => ?_, h.lO, fun j hj => ?_, h.t.transNew t (fun i hi q => by have := h.lL _ q; omega)⟩
  · intro q
    obtain ⟨o, e⟩ := q
    cases e
    rcases hg with hg | hg
    · exact h.ne _ hj hg
    · have := h.on.lt hj; omega
  · obtain ⟨o, e⟩ := hj
    cases e
    rcases hg with hg | hg
    · exact h.lL _ hg
    · omega
theorem fin (h : RMd w k aO cO aL cL (List.replicate (k + 1) (-1)) (List.replicate (k + 1) 3) vO vL wr) : RNw w (k + 1) aO cO aL cL ((wr.setCell ⟨w.heap.size, 4, none⟩ (.slice aO (k + 1) cO)).setCell ⟨w.heap.size, 5, none⟩ (.slice aL (k + 1) cL)) := by
  have t4 := (Touch.refl (· = w.heap.size) wr).setCell (p := ⟨w.heap.size, 4, none⟩) rfl (.slice aO (k + 1) cO)
  have t5 := t4.setCell (p := ⟨w.heap.size, 5, none⟩) rfl (.slice aL (k + 1) cL)
  refine ⟨((h.row.set 4 _).set 5 _).congr fun i hi => ?_, h.on.touch t5 (fun j hj q => by have := h.lO _ hj; omega), h.la.touch t5 (fun j hj q => by have := h.lL _ hj; omega), h.ne, h.lO, h.lL, h.t.transNew t5 (fun i hi q => by omega)⟩
  match i, hi with
  | 0, _ | 1, _ | 2, _ | 3, _ | 4, _ | 5, _ => rfl
end RMd
theorem RNw.md {w wr : World} {k : Nat} {aO aL : Option Addr} {cO cL : Nat} (h : RNw w k aO cO aL cL wr) : RMd w k aO cO aL cL (List.replicate k (-1)) (List.replicate k 3) (.slice aO k cO) (.slice aL k cL) wr :=
  ⟨h.row, h.on, h.la, h.ne, h.lO, h.lL, h.t⟩
theorem RNw.done {w wr : World} {k : Nat} {aO aL : Option Addr} {cO cL : Nat} {t : Bool} (h : RNw w k aO cO aL cL wr) (hk : k = (Sd.fresh t).c) : ∃ gO gL, RSdAt wr w.heap.size gO cO gL cL (Sd.fresh t) ∧ w.heap.size < gO ∧ w.heap.size < gL := by
  have k0 : 0 < k := by rw [hk]; have := (Sd.fresh t).c_ge; omega
  obtain ⟨gO, e1, _, _⟩ := h.on.at' (by rw [List.length_replicate]; exact k0)
  obtain ⟨gL, e2, _, _⟩ := h.la.at' (by rw [List.length_replicate]; exact k0)
  subst e1 e2
  refine ⟨gO, gL, ⟨h.row.congr fun i hi => ?_, ?_, ?_, fun q => h.ne gO ⟨0, rfl⟩ ⟨0, by rw [q]⟩⟩, h.lO _ ⟨0, rfl⟩, h.lL _ ⟨0, rfl⟩⟩
  · subst hk
    cases t <;> match i, hi with
      | 0, _ | 1, _ | 2, _ | 3, _ | 4, _ | 5, _ => rfl
  · have := h.on
    subst hk
    cases t <;> exact this
  · have := h.la
    subst hk
    cases t <;> exact this
theorem RNw.start (w : World) : RNw w 0 none 0 none 0 (w.alloc (.cells #[.bool false, .bool false, .bool false, .bool false, .slice none 0 0, .slice none 0 0] 35)) := by
  refine ⟨?_, NL.nil _, NL.nil _, fun j hj => (by obtain ⟨o, e⟩ := hj; cases e), fun j hj => (by obtain ⟨o, e⟩ := hj; cases e), fun j hj => (by obtain ⟨o, e⟩ := hj; cases e), (Touch.refl Nil w).alloc _⟩
  have := World.rowIs_alloc w #[.bool false, .bool false, .bool false, .bool false, .slice none 0 0, .slice none 0 0] 35 (fun i => if i < 4 then .bool false else if i = 4 then .slice none 0 0 else .slice none 0 0) (fun i hi => by
    have hi' : i < 6 := by simpa using hi
    match i, hi' with
    | 0, _ | 1, _ | 2, _ | 3, _ | 4, _ | 5, _ => rfl)
  exact this
theorem rep_snoc (k : Nat) (x : Int) : List.replicate k x ++ [x] = List.replicate (k + 1) x := by rw [List.replicate_succ']
/-- An append whose run is known, as one step of a region that draws. -/
theorem step_app_x {P : Program} {ops : Array Oper} {oo : Oper} {a : Act} {w : World} {K : Act → World → Prop} {Q : Exit → Act → World → Prop} {E : Prop} (hgd : oo.guard = none) (s x : Operand) (t : TypeId)
    (ho : oo.op = .call { callee := .builtin .append, args := #[s, x], argTypes := #[t, t] }) (va vb : Value) (hs : a.eval s = va) (hx : a.eval x = vb) (ty : TypeId) (hty : oo.type = ty) {v' : Value} {w' : World} (hrun : (Builtin.append_ #[t, t] ty #[va, vb]).run P w = .ok v' w')
    (h : K (a.put oo.dst v') w') : if Region.wanted oo (yielded ops a.tmps) = true then Oper.wp P oo a w K Q else E := by
  rw [if_pos (by simp [Region.wanted, hgd])]
  subst hty
  unfold Oper.wp
  simp [execOp, ho, resolve, invoke, builtin, hs, hx, hrun, Result.andThen]
  exact h
theorem new_cell (w : World) (x : Value) (ty : TypeId) : (w.alloc (.cells #[x] ty)).cell? ⟨w.heap.size, 0, none⟩ = some x := by
  have hb := heap_alloc_new w (.cells #[x] ty)
  unfold World.cell?
  rw [hb]; rfl
theorem cell_touch {S : Nat → Prop} {w w' : World} {b o : Nat} {v : Value} (h : w.cell? ⟨b, o, none⟩ = some v) (t : Touch S w w') (hs : ¬ S b) : w'.cell? ⟨b, o, none⟩ = some v := by
  have hlt : b < w.heap.size := by have := World.block_lt_of_cell? w _ h; simpa using this
  unfold World.cell? at h ⊢
  rw [t.block b hlt hs]; exact h
set_option maxRecDepth 20000 in
set_option maxHeartbeats 4000000 in
theorem rsNew_any (c : Int) (w : World) :
    Calls Try.prog 17 #[.int .i64 c] w fun e w' => e = .returned (.pointer (some ⟨w.heap.size, 0, none⟩)) ∧ (∃ gO cO gL cL, RSdAt w' w.heap.size gO cO gL cL (Sd.fresh (decide (2 ≤ c))) ∧ w.heap.size < gO ∧ w.heap.size < gL) ∧ Touch Nil w w' := by
  obtain ⟨N, hN, hN2⟩ : ∃ N : Nat, min (max c 1) 2 = (N : Int) ∧ N = (Sd.fresh (decide (2 ≤ c))).c := ⟨(min (max c 1) 2).toNat, by omega, by
    unfold Sd.c Sd.fresh
    by_cases h : 2 ≤ c
    · rw [decide_eq_true h, if_pos rfl]; omega
    · rw [decide_eq_false h, if_neg (by simp)]; omega⟩
  have N2 : N ≤ 2 := by omega
  have hN2 : Hid _ := hN2
  have hst := RNw.start w
  go_enter Try.func17, Try.ntmps17
  go_wp2_with fail
  go_loopg [4] 2 (fun gk i wr => ∃ (k : Nat) (aO : Option Addr) (cO : Nat) (aL : Option Addr) (cL : Nat), gk + k = 2 ∧ k ≤ N ∧ i = .int .i64 k ∧ RNw w k aO cO aL cL wr)
  case atStart => exact ⟨0, none, 0, none, 0, by omega, by omega, rfl, hst⟩
  case round =>
    clear hst
    obtain ⟨k, aO, cO, aL, cL, hgk, hkN, rfl, hI⟩ := hrel
    by_cases hk : k < N
    · have k1 : (k : Int) < N := by omega
      have hM := hI.md
      have hMd := hM.nil ((Touch.refl Nil wr).drew)
      have e5 := hI.row.cell (i := 4) (by omega)
      have hS := hMd.S
      go_upto_region 5 with fail
      refine wp_region_X (S := fun wx => wx.cell? ⟨w.heap.size, 4, none⟩ = some (.slice aO k cO) ∧ wx.cell? ⟨w.heap.size, 5, none⟩ = some (.slice aL k cL)) (X := [16, 19]) (by kernel_rfl) ?_
      refine wpAnyX_take (i := 0) (v := ?v0) rfl (by kernel_rfl) (by kernel_rfl) (by kernel_rfl) (by kernel_rfl) (fun _ _ _ h => h) (Or.inr hS) (Or.inl ⟨by rfl, ?hy0⟩) ?rest0
      case hy0 => intro wy _; go_simp; try with_reducible rfl
      simp only [Act.put, List.getElem_toArray, List.getElem_cons_zero, List.setIfInBounds_toArray, List.set_cons_zero, List.set_cons_succ]
      refine wpAnyX_take (i := 1) (v := ?v1) rfl (by kernel_rfl) (by kernel_rfl) (by kernel_rfl) (by kernel_rfl) (fun _ _ _ h => h) (Or.inr hS) (Or.inl ⟨by rfl, ?hy1⟩) ?rest1
      case hy1 => intro wy _; go_simp; try with_reducible rfl
      simp only [Act.put, List.getElem_toArray, List.getElem_cons_succ, List.getElem_cons_zero, List.setIfInBounds_toArray, List.set_cons_zero, List.set_cons_succ]
      refine wpAnyX_take (i := 2) (v := ?v2) rfl (by kernel_rfl) (by kernel_rfl) (by kernel_rfl) (by kernel_rfl) (fun _ _ _ h => h) (Or.inr hS) (Or.inl ⟨by rfl, ?hy2⟩) ?rest2
      case hy2 => intro wy _; go_simp; try with_reducible rfl
      simp only [Act.put, List.getElem_toArray, List.getElem_cons_succ, List.getElem_cons_zero, List.setIfInBounds_toArray, List.set_cons_zero, List.set_cons_succ]
      refine wpAnyX_take (i := 3) (v := ?v3) rfl (by kernel_rfl) (by kernel_rfl) (by kernel_rfl) (by kernel_rfl) (fun _ _ _ h => h) (Or.inr hS) (Or.inl ⟨by rfl, ?hy3⟩) ?rest3
      case hy3 => intro wy _; go_simp; try with_reducible rfl
      simp only [Act.put, List.getElem_toArray, List.getElem_cons_succ, List.getElem_cons_zero, List.setIfInBounds_toArray, List.set_cons_zero, List.set_cons_succ]
      refine wpAnyX_take (i := 4) (v := ?v4) rfl (by kernel_rfl) (by kernel_rfl) (by kernel_rfl) (by kernel_rfl) (fun _ _ _ h => h) (Or.inr hS) (Or.inl ⟨by rfl, ?hy4⟩) ?rest4
      case hy4 => intro wy _; go_simp; try with_reducible rfl
      simp only [Act.put, List.getElem_toArray, List.getElem_cons_succ, List.getElem_cons_zero, List.setIfInBounds_toArray, List.set_cons_zero, List.set_cons_succ]
      refine wpAnyX_load (i := 5) (v := ?v5) rfl (by kernel_rfl) (by kernel_rfl) (by kernel_rfl) (by kernel_rfl) (by kernel_rfl) (by kernel_rfl) (fun _ _ _ h => h) hS (Or.inl ⟨by rfl, ?hy5⟩) ?rest5
      case hy5 => rintro wy ⟨g1, g2⟩; go_simp; try with_reducible rfl
      simp only [Act.put, List.getElem_toArray, List.getElem_cons_succ, List.getElem_cons_zero, List.setIfInBounds_toArray, List.set_cons_zero, List.set_cons_succ]
      refine wpAnyX_take (i := 8) (v := ?v8) rfl (by kernel_rfl) (by kernel_rfl) (by kernel_rfl) (by kernel_rfl) (fun _ _ _ h => h) (Or.inr hS) (Or.inl ⟨by rfl, ?hy8⟩) ?rest8
      case hy8 => intro wy _; go_simp; try with_reducible rfl
      simp only [Act.put, List.getElem_toArray, List.getElem_cons_succ, List.getElem_cons_zero, List.setIfInBounds_toArray, List.set_cons_zero, List.set_cons_succ]
      refine wpAnyX_take (i := 9) (v := ?v9) rfl (by kernel_rfl) (by kernel_rfl) (by kernel_rfl) (by kernel_rfl) (fun _ _ _ h => h) (Or.inr hS) (Or.inl ⟨by rfl, ?hy9⟩) ?rest9
      case hy9 => intro wy _; go_simp; try with_reducible rfl
      simp only [Act.put, List.getElem_toArray, List.getElem_cons_succ, List.getElem_cons_zero, List.setIfInBounds_toArray, List.set_cons_zero, List.set_cons_succ]
      refine wpAnyX_take (i := 10) (v := ?v10) rfl (by kernel_rfl) (by kernel_rfl) (by kernel_rfl) (by kernel_rfl) (fun _ _ _ h => h) (Or.inr hS) (Or.inl ⟨by rfl, ?hy10⟩) ?rest10
      case hy10 => intro wy _; go_simp; try with_reducible rfl
      simp only [Act.put, List.getElem_toArray, List.getElem_cons_succ, List.getElem_cons_zero, List.setIfInBounds_toArray, List.set_cons_zero, List.set_cons_succ]
      refine wpAnyX_load (i := 11) (v := ?v11) rfl (by kernel_rfl) (by kernel_rfl) (by kernel_rfl) (by kernel_rfl) (by kernel_rfl) (by kernel_rfl) (fun _ _ _ h => h) hS (Or.inl ⟨by rfl, ?hy11⟩) ?rest11
      case hy11 => rintro wy ⟨g1, g2⟩; go_simp; try with_reducible rfl
      simp only [Act.put, List.getElem_toArray, List.getElem_cons_succ, List.getElem_cons_zero, List.setIfInBounds_toArray, List.set_cons_zero, List.set_cons_succ]
      have M0 := hMd
      obtain ⟨Bz, hBz⟩ : ∃ Bz, wr.drew.heap.size = Bz := ⟨_, rfl⟩
      have bO : ∀ j, blkA aO j → j < Bz := fun j hj => by rw [← hBz]; exact hMd.on.lt hj
      have S0 : Bz ≤ wr.drew.heap.size := by omega
      clear hMd hM hI hS e5 hBz
      generalize wr.drew = W0 at *
      refine wpAnyX_two (i := 6) (j := 12) rfl rfl (by kernel_rfl) ?_ ?_
      · intro K hK
        go_simp
        have tt := (Touch.refl Nil W0).alloc (.cells #[.int .i64 (-1)] 3)
        have M1 := M0.nil tt
        have xO := new_cell W0 (.int .i64 (-1)) 3
        have yO : Bz ≤ W0.heap.size := S0
        have S1 := Nat.le_trans S0 tt.size
        generalize W0.alloc (.cells #[.int .i64 (-1)] 3) = W1 at *
        generalize W0.heap.size = qO at *
        refine hK _ _ M1.S ?_
        clear hK K tt
        refine wpAnyX_two (i := 7) (j := 12) rfl rfl (by kernel_rfl) ?_ ?_
        · obtain ⟨gO, cO', W2, hrun, hN, tN, hg⟩ := NL.app M1.on (by rw [List.length_replicate]; omega) (-1) qO xO
          rw [List.length_replicate] at hrun
          have M2 := M1.appO tN hN hg
          have S2 := Nat.le_trans S1 tN.size
          intro K hK
          refine step_app_x rfl (.tmp 19) (.tmp 20) 28 rfl (.slice aO k cO) (.slice (some ⟨qO, 0, none⟩) 1 1) (by simp [Act.eval]) (by simp [Act.eval]) 28 rfl hrun ?_
          simp only [Act.put, List.getElem_toArray, List.getElem_cons_succ, List.getElem_cons_zero, List.setIfInBounds_toArray, List.set_cons_zero, List.set_cons_succ]
          refine hK _ _ M2.S ?_
          clear hK K hrun hN tN hg
          refine wpAnyX_one (i := 12) rfl (by kernel_rfl) ?_
          intro K hK
          go_simp
          have tt := (Touch.refl Nil W2).alloc (.cells #[.int .i64 3] 3)
          have M3 := M2.nil tt
          have xL := new_cell W2 (.int .i64 3) 3
          have yL : Bz ≤ W2.heap.size := S2
          have S3 := Nat.le_trans S2 tt.size
          generalize W2.alloc (.cells #[.int .i64 3] 3) = W3 at *
          generalize W2.heap.size = qL at *
          refine hK _ _ M3.S ?_
          clear hK K tt
          refine wpAnyX_one (i := 13) rfl (by kernel_rfl) ?_
          obtain ⟨gL, cL', W4, hrun, hN, tN, hg⟩ := NL.app M3.la (by rw [List.length_replicate]; omega) 3 qL xL
          rw [List.length_replicate] at hrun
          have M4 := M3.appL tN hN hg
          have S4 := Nat.le_trans S3 tN.size
          intro K hK
          refine step_app_x rfl (.tmp 25) (.tmp 26) 28 rfl (.slice aL k cL) (.slice (some ⟨qL, 0, none⟩) 1 1) (by simp [Act.eval]) (by simp [Act.eval]) 28 rfl hrun ?_
          simp only [Act.put, List.getElem_toArray, List.getElem_cons_succ, List.getElem_cons_zero, List.setIfInBounds_toArray, List.set_cons_zero, List.set_cons_succ]
          refine hK _ _ M4.S ?_
          clear hK K hrun hN tN hg
          rw [rep_snoc, rep_snoc] at M4
          have hF := M4.fin
          have fz4 := M4.row.frozen 4
          have fz5 := M4.row.frozen 5
          have S4' := M4.S
          obtain ⟨s4, s5⟩ := M4.S
          clear M0 M1 M2 M3 M4
          refine wpAnyX_take (i := 14) (v := ?v14a) rfl (by kernel_rfl) (by kernel_rfl) (by kernel_rfl) (by kernel_rfl) (fun _ _ _ h => h) (Or.inr S4') (Or.inl ⟨by rfl, ?hy14a⟩) ?rest14a
          case hy14a => intro wy _; go_simp; try with_reducible rfl
          simp only [Act.put, List.getElem_toArray, List.getElem_cons_succ, List.getElem_cons_zero, List.setIfInBounds_toArray, List.set_cons_zero, List.set_cons_succ]
          refine wpAnyX_take (i := 15) (v := ?v15a) rfl (by kernel_rfl) (by kernel_rfl) (by kernel_rfl) (by kernel_rfl) (fun _ _ _ h => h) (Or.inr S4') (Or.inl ⟨by rfl, ?hy15a⟩) ?rest15a
          case hy15a => intro wy _; go_simp; try with_reducible rfl
          simp only [Act.put, List.getElem_toArray, List.getElem_cons_succ, List.getElem_cons_zero, List.setIfInBounds_toArray, List.set_cons_zero, List.set_cons_succ]
          refine wpAnyX_late (i := 16) rfl (by kernel_rfl) (by kernel_rfl) ?_
          intro K hK
          go_simp
          refine hK _ _ ?_
          clear hK K
          refine wpAnyX_take (i := 17) (v := ?v17a) rfl (by kernel_rfl) (by kernel_rfl) (by kernel_rfl) (by kernel_rfl) (fun _ _ _ h => h) (Or.inl (by kernel_rfl)) (Or.inl ⟨by rfl, ?hy17a⟩) ?rest17a
          case hy17a => intro wy _; go_simp; try with_reducible rfl
          simp only [Act.put, List.getElem_toArray, List.getElem_cons_succ, List.getElem_cons_zero, List.setIfInBounds_toArray, List.set_cons_zero, List.set_cons_succ]
          refine wpAnyX_take (i := 18) (v := ?v18a) rfl (by kernel_rfl) (by kernel_rfl) (by kernel_rfl) (by kernel_rfl) (fun _ _ _ h => h) (Or.inl (by kernel_rfl)) (Or.inl ⟨by rfl, ?hy18a⟩) ?rest18a
          case hy18a => intro wy _; go_simp; try with_reducible rfl
          simp only [Act.put, List.getElem_toArray, List.getElem_cons_succ, List.getElem_cons_zero, List.setIfInBounds_toArray, List.set_cons_zero, List.set_cons_succ]
          refine wpAnyX_late (i := 19) rfl (by kernel_rfl) (by kernel_rfl) ?_
          intro K hK
          go_simp
          refine hK _ _ ?_
          clear hK K
          refine wpAnyX_done (by kernel_rfl) ?_ _
          go_wp2_with fail
          go_roundg (1 - k)
          case measure => omega
          case rel => exact ⟨k + 1, _, _, _, _, by omega, by omega, by go_num, hF⟩
        · intro K hK
          go_simp
          have tt := (Touch.refl Nil W1).alloc (.cells #[.int .i64 3] 3)
          have M2 := M1.nil tt
          have xL := new_cell W1 (.int .i64 3) 3
          have yL : Bz ≤ W1.heap.size := S1
          have S2 := Nat.le_trans S1 tt.size
          replace xO := cell_touch xO tt id
          generalize W1.alloc (.cells #[.int .i64 3] 3) = W2 at *
          generalize W1.heap.size = qL at *
          refine hK _ _ M2.S ?_
          clear hK K tt
          refine wpAnyX_one (i := 7) rfl (by kernel_rfl) ?_
          obtain ⟨gO, cO', W3, hrun, hN, tN, hg⟩ := NL.app M2.on (by rw [List.length_replicate]; omega) (-1) qO xO
          rw [List.length_replicate] at hrun
          have M3 := M2.appO tN hN hg
          have S3 := Nat.le_trans S2 tN.size
          replace xL := cell_touch xL tN (fun q => by have := bO _ q; omega)
          intro K hK
          refine step_app_x rfl (.tmp 19) (.tmp 20) 28 rfl (.slice aO k cO) (.slice (some ⟨qO, 0, none⟩) 1 1) (by simp [Act.eval]) (by simp [Act.eval]) 28 rfl hrun ?_
          simp only [Act.put, List.getElem_toArray, List.getElem_cons_succ, List.getElem_cons_zero, List.setIfInBounds_toArray, List.set_cons_zero, List.set_cons_succ]
          refine hK _ _ M3.S ?_
          clear hK K hrun hN tN hg
          refine wpAnyX_one (i := 13) rfl (by kernel_rfl) ?_
          obtain ⟨gL, cL', W4, hrun, hN, tN, hg⟩ := NL.app M3.la (by rw [List.length_replicate]; omega) 3 qL xL
          rw [List.length_replicate] at hrun
          have M4 := M3.appL tN hN hg
          have S4 := Nat.le_trans S3 tN.size
          intro K hK
          refine step_app_x rfl (.tmp 25) (.tmp 26) 28 rfl (.slice aL k cL) (.slice (some ⟨qL, 0, none⟩) 1 1) (by simp [Act.eval]) (by simp [Act.eval]) 28 rfl hrun ?_
          simp only [Act.put, List.getElem_toArray, List.getElem_cons_succ, List.getElem_cons_zero, List.setIfInBounds_toArray, List.set_cons_zero, List.set_cons_succ]
          refine hK _ _ M4.S ?_
          clear hK K hrun hN tN hg
          rw [rep_snoc, rep_snoc] at M4
          have hF := M4.fin
          have fz4 := M4.row.frozen 4
          have fz5 := M4.row.frozen 5
          have S4' := M4.S
          obtain ⟨s4, s5⟩ := M4.S
          clear M0 M1 M2 M3 M4
          refine wpAnyX_take (i := 14) (v := ?v14b) rfl (by kernel_rfl) (by kernel_rfl) (by kernel_rfl) (by kernel_rfl) (fun _ _ _ h => h) (Or.inr S4') (Or.inl ⟨by rfl, ?hy14b⟩) ?rest14b
          case hy14b => intro wy _; go_simp; try with_reducible rfl
          simp only [Act.put, List.getElem_toArray, List.getElem_cons_succ, List.getElem_cons_zero, List.setIfInBounds_toArray, List.set_cons_zero, List.set_cons_succ]
          refine wpAnyX_take (i := 15) (v := ?v15b) rfl (by kernel_rfl) (by kernel_rfl) (by kernel_rfl) (by kernel_rfl) (fun _ _ _ h => h) (Or.inr S4') (Or.inl ⟨by rfl, ?hy15b⟩) ?rest15b
          case hy15b => intro wy _; go_simp; try with_reducible rfl
          simp only [Act.put, List.getElem_toArray, List.getElem_cons_succ, List.getElem_cons_zero, List.setIfInBounds_toArray, List.set_cons_zero, List.set_cons_succ]
          refine wpAnyX_late (i := 16) rfl (by kernel_rfl) (by kernel_rfl) ?_
          intro K hK
          go_simp
          refine hK _ _ ?_
          clear hK K
          refine wpAnyX_take (i := 17) (v := ?v17b) rfl (by kernel_rfl) (by kernel_rfl) (by kernel_rfl) (by kernel_rfl) (fun _ _ _ h => h) (Or.inl (by kernel_rfl)) (Or.inl ⟨by rfl, ?hy17b⟩) ?rest17b
          case hy17b => intro wy _; go_simp; try with_reducible rfl
          simp only [Act.put, List.getElem_toArray, List.getElem_cons_succ, List.getElem_cons_zero, List.setIfInBounds_toArray, List.set_cons_zero, List.set_cons_succ]
          refine wpAnyX_take (i := 18) (v := ?v18b) rfl (by kernel_rfl) (by kernel_rfl) (by kernel_rfl) (by kernel_rfl) (fun _ _ _ h => h) (Or.inl (by kernel_rfl)) (Or.inl ⟨by rfl, ?hy18b⟩) ?rest18b
          case hy18b => intro wy _; go_simp; try with_reducible rfl
          simp only [Act.put, List.getElem_toArray, List.getElem_cons_succ, List.getElem_cons_zero, List.setIfInBounds_toArray, List.set_cons_zero, List.set_cons_succ]
          refine wpAnyX_late (i := 19) rfl (by kernel_rfl) (by kernel_rfl) ?_
          intro K hK
          go_simp
          refine hK _ _ ?_
          clear hK K
          refine wpAnyX_done (by kernel_rfl) ?_ _
          go_wp2_with fail
          go_roundg (1 - k)
          case measure => omega
          case rel => exact ⟨k + 1, _, _, _, _, by omega, by omega, by go_num, hF⟩
      · intro K hK
        go_simp
        have tt := (Touch.refl Nil W0).alloc (.cells #[.int .i64 3] 3)
        have M1 := M0.nil tt
        have xL := new_cell W0 (.int .i64 3) 3
        have yL : Bz ≤ W0.heap.size := S0
        have S1 := Nat.le_trans S0 tt.size
        generalize W0.alloc (.cells #[.int .i64 3] 3) = W1 at *
        generalize W0.heap.size = qL at *
        refine hK _ _ M1.S ?_
        clear hK K tt
        refine wpAnyX_one (i := 6) rfl (by kernel_rfl) ?_
        intro K hK
        go_simp
        have tt := (Touch.refl Nil W1).alloc (.cells #[.int .i64 (-1)] 3)
        have M2 := M1.nil tt
        have xO := new_cell W1 (.int .i64 (-1)) 3
        have yO : Bz ≤ W1.heap.size := S1
        have S2 := Nat.le_trans S1 tt.size
        replace xL := cell_touch xL tt id
        generalize W1.alloc (.cells #[.int .i64 (-1)] 3) = W2 at *
        generalize W1.heap.size = qO at *
        refine hK _ _ M2.S ?_
        clear hK K tt
        refine wpAnyX_one (i := 7) rfl (by kernel_rfl) ?_
        obtain ⟨gO, cO', W3, hrun, hN, tN, hg⟩ := NL.app M2.on (by rw [List.length_replicate]; omega) (-1) qO xO
        rw [List.length_replicate] at hrun
        have M3 := M2.appO tN hN hg
        have S3 := Nat.le_trans S2 tN.size
        replace xL := cell_touch xL tN (fun q => by have := bO _ q; omega)
        intro K hK
        refine step_app_x rfl (.tmp 19) (.tmp 20) 28 rfl (.slice aO k cO) (.slice (some ⟨qO, 0, none⟩) 1 1) (by simp [Act.eval]) (by simp [Act.eval]) 28 rfl hrun ?_
        simp only [Act.put, List.getElem_toArray, List.getElem_cons_succ, List.getElem_cons_zero, List.setIfInBounds_toArray, List.set_cons_zero, List.set_cons_succ]
        refine hK _ _ M3.S ?_
        clear hK K hrun hN tN hg
        refine wpAnyX_one (i := 13) rfl (by kernel_rfl) ?_
        obtain ⟨gL, cL', W4, hrun, hN, tN, hg⟩ := NL.app M3.la (by rw [List.length_replicate]; omega) 3 qL xL
        rw [List.length_replicate] at hrun
        have M4 := M3.appL tN hN hg
        have S4 := Nat.le_trans S3 tN.size
        intro K hK
        refine step_app_x rfl (.tmp 25) (.tmp 26) 28 rfl (.slice aL k cL) (.slice (some ⟨qL, 0, none⟩) 1 1) (by simp [Act.eval]) (by simp [Act.eval]) 28 rfl hrun ?_
        simp only [Act.put, List.getElem_toArray, List.getElem_cons_succ, List.getElem_cons_zero, List.setIfInBounds_toArray, List.set_cons_zero, List.set_cons_succ]
        refine hK _ _ M4.S ?_
        clear hK K hrun hN tN hg
        rw [rep_snoc, rep_snoc] at M4
        have hF := M4.fin
        have fz4 := M4.row.frozen 4
        have fz5 := M4.row.frozen 5
        have S4' := M4.S
        obtain ⟨s4, s5⟩ := M4.S
        clear M0 M1 M2 M3 M4
        refine wpAnyX_take (i := 14) (v := ?v14c) rfl (by kernel_rfl) (by kernel_rfl) (by kernel_rfl) (by kernel_rfl) (fun _ _ _ h => h) (Or.inr S4') (Or.inl ⟨by rfl, ?hy14c⟩) ?rest14c
        case hy14c => intro wy _; go_simp; try with_reducible rfl
        simp only [Act.put, List.getElem_toArray, List.getElem_cons_succ, List.getElem_cons_zero, List.setIfInBounds_toArray, List.set_cons_zero, List.set_cons_succ]
        refine wpAnyX_take (i := 15) (v := ?v15c) rfl (by kernel_rfl) (by kernel_rfl) (by kernel_rfl) (by kernel_rfl) (fun _ _ _ h => h) (Or.inr S4') (Or.inl ⟨by rfl, ?hy15c⟩) ?rest15c
        case hy15c => intro wy _; go_simp; try with_reducible rfl
        simp only [Act.put, List.getElem_toArray, List.getElem_cons_succ, List.getElem_cons_zero, List.setIfInBounds_toArray, List.set_cons_zero, List.set_cons_succ]
        refine wpAnyX_late (i := 16) rfl (by kernel_rfl) (by kernel_rfl) ?_
        intro K hK
        go_simp
        refine hK _ _ ?_
        clear hK K
        refine wpAnyX_take (i := 17) (v := ?v17c) rfl (by kernel_rfl) (by kernel_rfl) (by kernel_rfl) (by kernel_rfl) (fun _ _ _ h => h) (Or.inl (by kernel_rfl)) (Or.inl ⟨by rfl, ?hy17c⟩) ?rest17c
        case hy17c => intro wy _; go_simp; try with_reducible rfl
        simp only [Act.put, List.getElem_toArray, List.getElem_cons_succ, List.getElem_cons_zero, List.setIfInBounds_toArray, List.set_cons_zero, List.set_cons_succ]
        refine wpAnyX_take (i := 18) (v := ?v18c) rfl (by kernel_rfl) (by kernel_rfl) (by kernel_rfl) (by kernel_rfl) (fun _ _ _ h => h) (Or.inl (by kernel_rfl)) (Or.inl ⟨by rfl, ?hy18c⟩) ?rest18c
        case hy18c => intro wy _; go_simp; try with_reducible rfl
        simp only [Act.put, List.getElem_toArray, List.getElem_cons_succ, List.getElem_cons_zero, List.setIfInBounds_toArray, List.set_cons_zero, List.set_cons_succ]
        refine wpAnyX_late (i := 19) rfl (by kernel_rfl) (by kernel_rfl) ?_
        intro K hK
        go_simp
        refine hK _ _ ?_
        clear hK K
        refine wpAnyX_done (by kernel_rfl) ?_ _
        go_wp2_with fail
        go_roundg (1 - k)
        case measure => omega
        case rel => exact ⟨k + 1, _, _, _, _, by omega, by omega, by go_num, hF⟩
    · have hkN' : k = N := by omega
      subst hkN'
      have hD := hI.done hN2.out
      have tD := hI.t
      go_wp2_with fail
      go_ret
      obtain ⟨gO, gL, h1, h2, h3⟩ := hD
      exact ⟨rfl, ⟨gO, cO, gL, cL, h1, h2, h3⟩, tD⟩
end Go.Proofs.Ytlhppmhacdoilaa


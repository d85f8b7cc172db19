/-
  slices.Delete, slices.Clone of lists of items; one more item.
-/
import Derived.Test.YtleeodpnamnnfaaTlbC
import Derived.Deep.RegionLaw
import Derived.WalkSpells
import Derived.Lib.SlFresh
import Derived.ArgAppend
namespace Go.Proofs.Ytleeodpnamnnfaa
open Go.ChangeShapes Go.WideShapes Go.ChangeAt Go.RowKit

def forget (i : Nat) (l : List It) : List It := l.take i ++ l.drop (i + 1)
theorem forget_len (i : Nat) (l : List It) (h : i < l.length) : (forget i l).length = l.length - 1 := by simp [forget]; omega
theorem flat_drop (l : List It) (n : Nat) : flat (l.drop n) = (flat l).drop (n * 6) := by
  induction l generalizing n with
  | nil => simp [flat]
  | cons x l ih =>
    match n with
    | 0 => simp [flat]
    | n + 1 =>
      rw [List.drop_succ_cons, ih, flat, List.drop_append, It.vs_len, show (n + 1) * 6 - 6 = n * 6 by omega, show List.drop ((n + 1) * 6) x.vs = [] from List.drop_eq_nil_of_le (by rw [It.vs_len]; omega)]
      rfl

theorem LRow.forget {ty : TypeId} {w : World} {g o cap : Nat} {l : List It} (h : LRow ty w g o cap l) {i : Nat} (hi : i < l.length) : LRow ty (w.setCells g (o + i * 6) (flat (l.drop (i + 1)))) g o cap (forget i l) := by
  obtain ⟨h1, h2, m, f, h3, h4, h5⟩ := h
  refine ⟨by rw [forget_len i l hi]; omega, h2, m, _, h3.setCells _ (o + i * 6), h4, fun k v hv => ?_⟩
  rw [Proofs.Ytleeodpnamnnfaa.forget, flat_app] at hv
  have hl : (flat (l.take i)).length = i * 6 := by rw [flat_len, List.length_take]; congr 1; omega
  by_cases hc : k < i * 6
  · rw [if_neg (by omega)]
    rw [List.getElem?_append_left (by omega), flat_take, List.getElem?_take, if_pos hc] at hv
    exact h5 k v hv
  · rw [if_pos (by omega), show o + k - (o + i * 6) = k - i * 6 by omega]
    rw [List.getElem?_append_right (by omega), hl] at hv
    rw [hv]; rfl

theorem step_append_run {P : Program} {ops : Array Oper} {oo : Oper} {a : Act} {w : World} {K : Act → World → Prop} {Q : Exit → Act → World → Prop} {E : Prop} (hgd : oo.guard = none) (s x : Operand) (t : TypeId)
    (ho : oo.op = .call { callee := .builtin .append, args := #[s, x], argTypes := #[t, t] }) (va vb : Value) (hs : a.eval s = va) (hx : a.eval x = vb) (ty : TypeId) (hty : oo.type = ty) {v' : Value} {w' : World} (hrun : (Builtin.append_ #[t, t] ty #[va, vb]).run P w = .ok v' w')
    (h : K (a.put oo.dst v') w') : if Region.wanted oo (yielded ops a.tmps) = true then Oper.wp P oo a w K Q else E := by
  have hw : Region.wanted oo (yielded ops a.tmps) = true := by simp [Region.wanted, hgd]
  rw [if_pos hw]
  subst hty
  unfold Oper.wp
  simp [execOp, ho, resolve, invoke, builtin, hs, hx, hrun, Result.andThen]
  exact h

set_option maxRecDepth 10000 in
set_option maxHeartbeats 1000000 in
theorem delete_row {w : World} {g o cap : Nat} {l : List It} (h : LRow 26 w g o cap l) (hn : l.length ≤ 9) (i : Nat) (hi : i < l.length) :
    Calls Try.prog 34 #[.slice (some ⟨g, o, none⟩) l.length cap, .int .i64 i, .int .i64 ((i : Int) + 1)] w fun e w' => e = .returned (.slice (some ⟨g, o, none⟩) (l.length - 1) cap) ∧ LRow 26 w' g o cap (forget i l) ∧ Touch (· = g) w w' := by
  have hcap1 := h.1
  have hcap2 := h.2.1
  unfold maxLen at hcap2
  have i1 : (i : Int) ≤ (i : Int) + 1 := by omega
  have i2 : (i : Int) + 1 ≤ (l.length : Int) := by omega
  have i3 : ¬ ((i : Int) = (i : Int) + 1) := by omega
  have i4 : i + 1 ≤ cap := by omega
  have i5 : i + 1 ≤ l.length := by omega
  have i6 : i ≤ cap := by omega
  have i7 : ((i : Int) + 1).toNat = i + 1 := by omega
  have i8 : 0 ≤ (i : Int) + 1 := by omega
  obtain ⟨i0, hi0, hz1⟩ : ∃ i, Try.prog.info? 26 = some i ∧ i.size = 6 := ⟨_, rfl, rfl⟩
  have ht : Try.prog.underlying 32 = some (.slice 26) := by kernel_rfl
  have hlen : (flat (l.drop (i + 1))).length = (l.length - (i + 1)) * 6 := by rw [flat_len, List.length_drop]
  obtain ⟨A, hA, hsrc⟩ : ∃ A : Addr, (if cap = i + 1 then some (⟨g, o, none⟩ : Addr) else some ⟨g, o + (i + 1) * 6, none⟩) = some A ∧ Hid (∀ t u, (flat (l.drop (i + 1)))[t]? = some u → w.drew.cell? (A.add t) = some u) := by
    by_cases hc : cap = i + 1
    · refine ⟨⟨g, o, none⟩, by simp [hc], fun t u hu => ?_⟩
      have h0 : (flat (l.drop (i + 1))).length = 0 := by rw [hlen]; omega
      rw [List.length_eq_zero_iff.1 h0] at hu
      simp at hu
    · refine ⟨⟨g, o + (i + 1) * 6, none⟩, by simp [hc], fun t u hu => ?_⟩
      rw [flat_drop, List.getElem?_drop] at hu
      rw [Addr.add_lit, Nat.add_assoc]
      exact h.cell hu
  have hroom : i + (l.length - (i + 1)) ≤ cap := by omega
  have hrun := run_append_room_cells (P := Try.prog) w.drew 32 32 26 i0 ht hi0 g o i cap A (l.length - (i + 1)) (cap - (i + 1)) (flat (l.drop (i + 1))) (by rw [hlen, hz1]) hsrc.out (flat_one' _) hroom
    (fun j hj => by rw [hz1, Nat.add_assoc]; exact ((h.there (i * 6 + j) 1 (by rw [hlen] at hj; omega)) 0 (by omega)).1) (fun j hj => by rw [hz1, Nat.add_assoc]; exact ((h.there (i * 6 + j) 1 (by rw [hlen] at hj; omega)) 0 (by omega)).2)
  rw [hz1, show i + (l.length - (i + 1)) = l.length - 1 by omega] at hrun
  have hL1 : Aside (LRow 26 (w.drew.setCells g (o + i * 6) (flat (l.drop (i + 1)))) g o cap (forget i l)) := LRow.forget (w := w.drew) h hi
  have hT1 : Aside (Touch (· = g) w (w.drew.setCells g (o + i * 6) (flat (l.drop (i + 1))))) := ((Touch.refl (· = g) w).drew).setCells rfl _ _
  generalize hW : w.drew.setCells g (o + i * 6) (flat (l.drop (i + 1))) = W at hrun hL1 hT1
  clear hW hsrc hlen
  obtain ⟨zs, hcl⟩ := run_clear6 (P := Try.prog) W 32 26 0 (by kernel_rfl) (fun _ => rfl) g (o + (l.length - 1) * 6) 1 (cap - (l.length - 1)) (hL1.out.there ((l.length - 1) * 6) 6 (by omega))
  have hfin : Aside (LRow 26 (W.setCells g (o + (l.length - 1) * 6) zs) g o cap (forget i l)) := hL1.out.behind (l.length - 1) (by rw [forget_len i l hi]; omega) zs
  have hTf : Aside (Touch (· = g) w (W.setCells g (o + (l.length - 1) * 6) zs)) := hT1.out.setCells rfl _ _
  have j1 : l.length - 1 ≤ l.length := by omega
  have j2 : l.length - 1 ≤ cap := by omega
  have j3 : l.length - (l.length - 1) = 1 := by omega
  have j4 : ((l.length - 1 : Nat) : Int) ≤ (l.length : Int) := by omega
  have j5 : ¬ (cap = l.length - 1) := by omega
  clear h hL1 hT1 hi0 hz1 ht
  go_enter Try.func34, Try.ntmps34
  go_wp2_with fail
  go_region_law (refine step_append_run (P := Try.prog) rfl (.tmp 22) (.tmp 25) 32 rfl (.slice (some ⟨g, o, none⟩) i cap) (.slice (some A) (l.length - (i + 1)) (cap - (i + 1))) (by simp [Act.eval, Act.put]) (by simp [Act.eval, Act.put]) 32 rfl hrun ?_)
  go_wp2
  go_ret
  exact ⟨rfl, hfin.out, hTf.out⟩

theorem LRow.ofOwns {ty : TypeId} {w : World} {base : Nat} {v : Value} {l : List It} (h : w.ownsRow base ty 6 v l.length (flat l)) (hl : l ≠ []) : ∃ g cap, v = .slice (some ⟨g, 0, none⟩) l.length cap ∧ base ≤ g ∧ LRow ty w g 0 cap l := by
  obtain ⟨e1, e2⟩ := h
  rcases e2 with ⟨_, e2⟩ | ⟨g, cp, cur, rfl, e3, e4, e5, e6, e7, e8⟩
  · exact absurd (List.length_eq_zero_iff.1 e2) hl
  · refine ⟨g, cp, rfl, e3, e5, e6, cur.size, fun i => (cur[i]?).getD (.int .i64 0), rowHas.of ⟨cur, e4, rfl, fun i hi => by simp [hi]⟩, by rw [e7]; omega, fun i u hu => ?_⟩
    rw [← e8, List.getElem?_take] at hu
    split at hu
    · rw [Array.getElem?_toList] at hu
      rw [Nat.zero_add]; show (cur[i]?).getD _ = u; rw [hu]; rfl
    · cases hu

/-- One more item. -/
theorem LAt.append {P : Program} {ty t : TypeId} {w : World} {a : Option Addr} {cap : Nat} {l : List It} (h : LAt ty w a cap l) (ht : P.underlying t = some (.slice ty)) (hinfo : (P.info? ty).map (fun i => (i.zero, i.size, i.bytes)) = some (some It.zero.V, 6, 32)) (few : l.length ≤ 1024) (x : It) (B : Nat) (hB : ∀ j v, x.vs[j]? = some v → w.cell? ⟨B, j, none⟩ = some v) :
    ∃ g o cap' w', (Builtin.append_ #[t, t] t #[.slice a l.length cap, .slice (some ⟨B, 0, none⟩) 1 1]).run P w = .ok (.slice (some ⟨g, o, none⟩) (l.length + 1) cap') w' ∧ LRow ty w' g o cap' (l ++ [x]) ∧ Touch (blk a) w w' ∧ (w.heap.size ≤ g ∧ o = 0 ∨ a = some ⟨g, o, none⟩) := by
  obtain ⟨i0, hi, hzz⟩ := Option.map_eq_some_iff.1 hinfo
  simp only [Prod.mk.injEq] at hzz
  obtain ⟨hz0, hz1, hz2⟩ := hzz
  have hnews : ∀ j u, x.vs[j]? = some u → w.cell? ((⟨B, 0, none⟩ : Addr).add j) = some u := fun j u hu => by rw [add_zero']; exact hB j u hu
  have h1 : ∀ u ∈ x.vs, u.oneCell' = true := fun u hu => by
    simp [It.vs] at hu; rcases hu with rfl | rfl | rfl | rfl | rfl | rfl <;> rfl
  have hf1 : flat (l ++ [x]) = flat l ++ x.vs := by rw [flat_app, flat_one]
  have hl1 : (l ++ [x]).length = l.length + 1 := by simp
  rcases h with ⟨rfl, rfl, rfl⟩ | ⟨g, o, rfl, h⟩
  · obtain ⟨v', w', hr, e2, e3, _⟩ := run_append_own (P := P) w w.heap.size t t ty i0 It.zero.V 6 32 ht hi hz0 hz1 hz2 rfl (by decide) (.slice none 0 0) 0 [] (World.ownsRow_nil w _ _ _) ⟨B, 0, none⟩ 1 1 x.vs rfl hnews h1 (by unfold maxLen; omega) (by omega) (Nat.le_refl _)
    obtain ⟨g, cap', rfl, hg, hL⟩ := LRow.ofOwns (l := [x]) (by rw [flat_one]; exact e2) (by simp)
    exact ⟨g, 0, cap', w', hr, hL, ⟨e3.os, e3.tape, e3.output, e3.size, fun k hk _ => e3.block k hk (by simp [Value.ownBlock])⟩, Or.inl ⟨hg, rfl⟩⟩
  · have hb : blk (some ⟨g, o, none⟩) g := ⟨_, rfl, rfl⟩
    obtain ⟨q1, q2, q3⟩ := h
    have h : LRow ty w g o cap l := ⟨q1, q2, q3⟩
    by_cases hroom : l.length + 1 ≤ cap
    · have hth := h.there (l.length * 6) 6 (by omega)
      have hr := run_append_room_cells (P := P) w t t ty i0 ht hi g o l.length cap ⟨B, 0, none⟩ 1 1 x.vs (by rw [hz1]; rfl) hnews h1 hroom (fun j hj => by rw [hz1]; exact (hth j hj).1) (fun j hj => by rw [hz1]; exact (hth j hj).2)
      rw [hz1] at hr
      refine ⟨g, o, cap, _, hr, ?_, (Touch.refl (blk _) w).setCells hb _ _, Or.inr rfl⟩
      obtain ⟨m, f, h3, h4, h5⟩ := q3
      refine ⟨by rw [hl1]; exact hroom, q2, m, _, h3.setCells x.vs (o + l.length * 6), h4, fun k v hv => ?_⟩
      rw [hf1] at hv
      by_cases hk : k < l.length * 6
      · rw [List.getElem?_append_left (by rw [flat_len]; exact hk)] at hv
        rw [if_neg (by omega)]; exact h5 k v hv
      · rw [List.getElem?_append_right (by rw [flat_len]; omega), flat_len] at hv
        rw [if_pos (by omega), show o + k - (o + l.length * 6) = k - l.length * 6 by omega, hv]; rfl
    · obtain ⟨v', w', hr, e2, e3⟩ := run_append_arg_grows (P := P) w t t ty i0 It.zero.V 6 32 ht hi hz0 hz1 hz2 rfl (by decide) ⟨g, o, none⟩ l.length cap (flat l) (flat_len l) (fun j u hu => by
          rw [Addr.add_mid]; exact h.cell hu) ⟨B, 0, none⟩ 1 1 x.vs rfl hnews (by omega) (by unfold maxLen; omega) (by omega)
      obtain ⟨g', cap', rfl, hg, hL⟩ := LRow.ofOwns (l := l ++ [x]) (by rw [hf1, hl1]; exact e2) (by simp)
      rw [hl1] at hr
      exact ⟨g', 0, cap', w', hr, hL, ⟨e3.os, e3.tape, e3.output, e3.size, fun k hk _ => e3.block k hk (by simp)⟩, Or.inl ⟨hg, rfl⟩⟩

/-- All of them, in new memory. -/
theorem append_all {P : Program} {ty t : TypeId} {w : World} {g c o cap : Nat} {l : List It} (hg : rowHas w g ty 0 (fun _ => .int .i64 0)) (h : LRow ty w c o cap l) (ht : P.underlying t = some (.slice ty)) (hinfo : (P.info? ty).map (fun i => (i.zero, i.size, i.bytes)) = some (some It.zero.V, 6, 32)) (few : l.length ≤ 1024) :
    ∃ g' cap' w', (Builtin.append_ #[t, t] t #[.slice (some ⟨g, 0, none⟩) 0 0, .slice (some ⟨c, o, none⟩) l.length cap]).run P w = .ok (.slice (some ⟨g', 0, none⟩) l.length cap') w' ∧ LRow ty w' g' 0 cap' l ∧ Touch Nil w w' ∧ (g' = g ∨ w.heap.size ≤ g') := by
  obtain ⟨i0, hi, hzz⟩ := Option.map_eq_some_iff.1 hinfo
  simp only [Prod.mk.injEq] at hzz
  obtain ⟨hz0, hz1, hz2⟩ := hzz
  by_cases hl : l = []
  · subst hl
    refine ⟨g, 0, w, run_append_nothing w t t t ty i0 ht hi (some ⟨g, 0, none⟩) 0 0 (Nat.le_refl _) _ (Src.ofSlice w ht ⟨c, o, none⟩ 0 cap [] (by simp) (fun j v hv => by simp at hv) (fun u hu => by cases hu)), ?_, Touch.refl _ _, Or.inl rfl⟩
    exact ⟨Nat.le_refl _, Nat.zero_le _, 0, _, hg, Nat.le_refl _, fun i v hv => by simp [flat] at hv⟩
  · have hpos := List.length_pos_iff.2 hl
    obtain ⟨v', w', hr, e2, e3⟩ := run_append_arg_grows (P := P) w t t ty i0 It.zero.V 6 32 ht hi hz0 hz1 hz2 rfl (by decide) ⟨g, 0, none⟩ 0 0 [] (by simp) (fun j u hu => by simp at hu) ⟨c, o, none⟩ l.length cap (flat l) (flat_len l) (fun j u hu => by
        rw [Addr.add_mid]; exact h.cell hu) (by omega) (by unfold maxLen; omega) (by omega)
    rw [Nat.zero_add, List.nil_append] at e2
    obtain ⟨g', cap', rfl, hg', hL⟩ := LRow.ofOwns e2 hl
    exact ⟨g', cap', w', hr, hL, ⟨e3.os, e3.tape, e3.output, e3.size, fun k hk _ => e3.block k hk (by simp)⟩, Or.inr hg'⟩

set_option maxHeartbeats 1000000 in
theorem clone_row {w : World} {g o cap : Nat} {l : List It} (h : LRow 26 w g o cap l) (hn : l.length ≤ 9) :
    Calls Try.prog 33 #[.slice (some ⟨g, o, none⟩) l.length cap] w fun e w' => ∃ g' cap', e = .returned (.slice (some ⟨g', 0, none⟩) l.length cap') ∧ w.heap.size ≤ g' ∧ LRow 26 w' g' 0 cap' l ∧ Touch Nil w w' := by
  have he := fun w => Lib.run_eql_slice_nil (P := Try.prog) w 32 26 (some ⟨g, o, none⟩) l.length cap 0 0 (by kernel_rfl)
  obtain ⟨g', cap', W', hr, hrow, ht, hc'⟩ := append_all (P := Try.prog) (t := 32) (rowHas_alloc w #[] 26 0 (fun _ => .int .i64 0) (by simp) (fun i hi => by omega)) (h.touch ((Touch.refl Nil w).alloc (.cells #[] 26)) (by simp [Nil])) (by kernel_rfl) (by kernel_rfl) (by omega)
  have hge : w.heap.size ≤ g' := by rcases hc' with rfl | hc'; · exact Nat.le_refl _
                                    · simp at hc'; omega
  have hT : Touch Nil w W' := ((Touch.refl Nil w).alloc _).trans ht
  clear hc' ht h
  go_enter Try.func33, Try.ntmps33
  go_wp2_with (refine Lib.wpList_append_run_sl _ rfl _ _ 32 rfl _ _ rfl rfl hr ?_)
  go_ret
  exact ⟨g', cap', rfl, hge, hrow, hT⟩
set_option maxHeartbeats 1000000 in
theorem clone_nil {w : World} :
    Calls Try.prog 33 #[.slice none 0 0] w fun e w' => e = .returned (.slice none 0 0) ∧ w = w' := by
  have he := fun w => Lib.run_eql_slice_nil (P := Try.prog) w 32 26 none 0 0 0 0 (by kernel_rfl)
  simp only [Option.isNone_none] at he
  go_enter Try.func33, Try.ntmps33
  go_wp2
  refine bodyPost_ret (results_tmp rfl _ _ _) rfl ?_
  exact ⟨rfl, rfl⟩
end Go.Proofs.Ytleeodpnamnnfaa

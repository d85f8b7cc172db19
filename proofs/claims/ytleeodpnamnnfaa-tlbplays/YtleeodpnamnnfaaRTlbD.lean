/-
  The document's own TLB: what is forgotten.
-/
import Derived.Test.YtleeodpnamnnfaaRTlbC
namespace Go.Proofs.Ytleeodpnamnnfaa
open Go.ChangeShapes Go.WideShapes Go.ChangeAt Go.RowKit

/-- More items, out of another list. -/
theorem LAt.appendL {P : Program} {ty t : TypeId} {w : World} {a : Option Addr} {cap : Nat} {l k : List It} (h : LAt ty w a cap l) (ht : P.underlying t = some (.slice ty)) (hinfo : (P.info? ty).map (fun i => (i.zero, i.size, i.bytes)) = some (some It.zero.V, 6, 32)) (few : l.length + k.length ≤ 1024) (A : Addr) (c : Nat) (hA : ∀ j u, (flat k)[j]? = some u → w.cell? (A.add j) = some u) :
    ∃ a' cap' w', (Builtin.append_ #[t, t] t #[.slice a l.length cap, .slice (some A) k.length c]).run P w = .ok (.slice a' (l.length + k.length) cap') w' ∧ LAt ty w' a' cap' (l ++ k) ∧ Touch (blk a) w w' ∧ (∀ j, blk a' j → w.heap.size ≤ j ∨ blk a j) := by
  obtain ⟨i0, hi, hzz⟩ := Option.map_eq_some_iff.1 hinfo
  simp only [Prod.mk.injEq] at hzz
  obtain ⟨hz0, hz1, hz2⟩ := hzz
  have hle : l.length ≤ cap := by
    rcases h with ⟨_, rfl, rfl⟩ | ⟨g, o, _, h⟩
    · exact Nat.le_refl _
    · exact h.1
  by_cases hk : k = []
  · subst hk
    refine ⟨a, cap, w, ?_, by rw [List.append_nil]; exact h, Touch.refl _ _, fun j hj => Or.inr hj⟩
    exact run_append_nothing w t t t ty i0 ht hi a l.length cap hle _ (Src.ofSlice w ht A 0 c [] (by simp) (fun j v hv => by simp at hv) (fun u hu => by cases hu))
  · have hkp := List.length_pos_iff.2 hk
    have hf1 : flat (l ++ k) = flat l ++ flat k := flat_app l k
    have hl1 : (l ++ k).length = l.length + k.length := by simp
    have hne : l ++ k ≠ [] := by intro e; exact hk (List.append_eq_nil_iff.1 e).2
    rcases h with ⟨rfl, rfl, rfl⟩ | ⟨g, o, rfl, h⟩
    · obtain ⟨v', w', hr, e2, e3, _⟩ := run_append_own (P := P) w w.heap.size t t ty i0 It.zero.V 6 32 ht hi hz0 hz1 hz2 rfl (by decide) (.slice none 0 0) 0 [] (World.ownsRow_nil w _ _ _) A k.length c (flat k) (flat_len k) hA (flat_one' k) (by unfold maxLen; simp at few; omega) (by simp at few; omega) (Nat.le_refl _)
      obtain ⟨g, cap', rfl, hg, hL⟩ := LRow.ofOwns (l := k) (by rw [Nat.zero_add, List.nil_append] at e2; exact e2) hk
      refine ⟨some ⟨g, 0, none⟩, cap', w', by rw [List.length_nil, Nat.zero_add]; exact hr, Or.inr ⟨g, 0, rfl, hL⟩, ⟨e3.os, e3.tape, e3.output, e3.size, fun k hk _ => e3.block k hk (by simp [Value.ownBlock])⟩, ?_⟩
      rintro j ⟨p, hp, rfl⟩; cases hp; exact Or.inl hg
    · have hb : blk (some ⟨g, o, none⟩) g := ⟨_, rfl, rfl⟩
      obtain ⟨q1, q2, q3⟩ := h
      have h : LRow ty w g o cap l := ⟨q1, q2, q3⟩
      by_cases hroom : l.length + k.length ≤ cap
      · have hth := h.there (l.length * 6) (k.length * 6) (by omega)
        have hr := run_append_room_cells (P := P) w t t ty i0 ht hi g o l.length cap A k.length c (flat k) (by rw [hz1]; exact flat_len k) hA (flat_one' k) hroom (fun j hj => by rw [hz1]; exact (hth j (by rwa [flat_len] at hj)).1) (fun j hj => by rw [hz1]; exact (hth j (by rwa [flat_len] at hj)).2)
        rw [hz1] at hr
        refine ⟨some ⟨g, o, none⟩, cap, _, hr, Or.inr ⟨g, o, rfl, ?_⟩, (Touch.refl (blk _) w).setCells hb _ _, fun j hj => Or.inr hj⟩
        obtain ⟨m, f, h3, h4, h5⟩ := q3
        refine ⟨by rw [hl1]; exact hroom, q2, m, _, h3.setCells (flat k) (o + l.length * 6), h4, fun i v hv => ?_⟩
        rw [hf1] at hv
        by_cases hi' : i < l.length * 6
        · rw [List.getElem?_append_left (by rw [flat_len]; exact hi')] at hv
          rw [if_neg (by omega)]; exact h5 i v hv
        · rw [List.getElem?_append_right (by rw [flat_len]; omega), flat_len] at hv
          rw [if_pos (by omega), show o + i - (o + l.length * 6) = i - l.length * 6 by omega, hv]; rfl
      · obtain ⟨v', w', hr, e2, e3⟩ := run_append_arg_grows (P := P) w t t ty i0 It.zero.V 6 32 ht hi hz0 hz1 hz2 rfl (by decide) ⟨g, o, none⟩ l.length cap (flat l) (flat_len l) (fun j u hu => by
            rw [Addr.add_mid]; exact h.cell hu) A k.length c (flat k) (flat_len k) hA (by omega) (by unfold maxLen; omega) (by omega)
        obtain ⟨g', cap', rfl, hg, hL⟩ := LRow.ofOwns (l := l ++ k) (by rw [hf1, hl1]; exact e2) hne
        rw [hl1] at hr
        refine ⟨some ⟨g', 0, none⟩, cap', w', hr, Or.inr ⟨g', 0, rfl, hL⟩, ⟨e3.os, e3.tape, e3.output, e3.size, fun k hk _ => e3.block k hk (by simp)⟩, ?_⟩
        rintro j ⟨p, hp, rfl⟩; cases hp; exact Or.inl hg

set_option maxHeartbeats 1000000 in
theorem rforget_any {w : World} {lo r : Nat} {l : List It} (h : RT w lo r l) (n : Int) :
    Calls Try.prog 21 #[.pointer (some ⟨r, 0, none⟩), .int .i64 n] w fun e w' => e = .returned (.bool (hasN n l)) ∧ (∃ lo', RT w' lo' r (forgetI n l)) ∧ Touch (· = r) w w' := by
  unfold forgetI
  have h8 := h.1
  cases hh : hasN n l
  · have hno : ¬ (0 ≤ n ∧ n < l.length) := fun e => by rw [(hasN_iff n l).2 e] at hh; cases hh
    rw [if_neg (by simp)]
    have h' := h
    obtain ⟨_, a, cap, hr, hL, hb⟩ := h
    have c0 := hr.cell (i := 0) (by omega)
    clear hL hr hb
    by_cases hn : n < 0
    · go_enter Try.func21, Try.ntmps21
      go_wp2
      go_ret
      exact ⟨rfl, ⟨lo, h'⟩, Touch.refl _ _⟩
    · have hn2 : (l.length : Int) ≤ n := by omega
      go_enter Try.func21, Try.ntmps21
      go_wp2
      go_ret
      exact ⟨rfl, ⟨lo, h'⟩, Touch.refl _ _⟩
  · have hn := (hasN_iff n l).1 hh
    rw [if_pos rfl]
    obtain ⟨i, rfl⟩ := Int.eq_ofNat_of_zero_le hn.1
    rw [Int.toNat_natCast]
    obtain ⟨_, a, cap, hr, hLA, hb⟩ := h
    have hi : i < l.length := by omega
    obtain ⟨g, o, rfl, hL⟩ := LAt.row hLA (by intro h; rw [h] at hi; simp at hi)
    clear hLA hb
    have c0 := hr.cell (i := 0) (by omega)
    have hi1 : (i : Int) < (l.length : Int) := by omega
    have hi2 : ¬ ((l.length : Int) ≤ (i : Int)) := by omega
    go_enter Try.func21, Try.ntmps21
    go_wp2_with fail
    have hcap := hL.1
    have hlt1 : (l.take i).length = i := by rw [List.length_take]; omega
    have hlt2 : (l.drop (i + 1)).length = l.length - (i + 1) := List.length_drop
    obtain ⟨a1, cap1, w2, hrun1, hL1, hT1, hb1⟩ := LAt.appendL (P := Try.prog) (t := 39) (ty := 44) (w := w.drew) (a := none) (cap := 0) (l := []) (k := l.take i) (Or.inl ⟨rfl, rfl, rfl⟩) (by kernel_rfl) (by kernel_rfl) (by simp; omega) ⟨g, o, none⟩ cap (fun j u hu => by
      rw [flat_take, List.getElem?_take] at hu
      split at hu
      · rw [Addr.add_mid]; exact hL.cell hu
      · cases hu)
    rw [hlt1, List.length_nil, Nat.zero_add] at hrun1
    rw [List.nil_append] at hL1
    have hTn : Touch Nil w w2 := ((Touch.refl Nil w).drew).transNew hT1 (fun j _ e => by obtain ⟨p, hp, _⟩ := e; cases hp)
    have hLg := hL.touch hTn (by simp [Nil])
    have hb1' : ∀ j, blk a1 j → w.heap.size ≤ j := fun j hj => by
      rcases hb1 j hj with e | ⟨p, hp, _⟩
      · exact e
      · cases hp
    obtain ⟨A, hAe, hsrc⟩ : ∃ A : Addr, (if cap = i + 1 then some (⟨g, o, none⟩ : Addr) else some ⟨g, o + (i + 1) * 6, none⟩) = some A ∧ Hid (∀ t u, (flat (l.drop (i + 1)))[t]? = some u → w2.cell? (A.add t) = some u) := by
      by_cases hc : cap = i + 1
      · refine ⟨⟨g, o, none⟩, by simp [hc], fun t u hu => ?_⟩
        have h0 : (flat (l.drop (i + 1))).length = 0 := by rw [flat_len, hlt2]; omega
        rw [List.length_eq_zero_iff.1 h0] at hu
        simp at hu
      · refine ⟨⟨g, o + (i + 1) * 6, none⟩, by simp [hc], fun t u hu => ?_⟩
        rw [flat_drop, List.getElem?_drop] at hu
        rw [Addr.add_lit, Nat.add_assoc]
        exact hLg.cell hu
    obtain ⟨a2, cap2, w3, hrun2, hL2, hT2, hb2⟩ := LAt.appendL (P := Try.prog) (t := 39) hL1 (k := l.drop (i + 1)) (by kernel_rfl) (by kernel_rfl) (by rw [hlt1, hlt2]; omega) A (cap - (i + 1)) hsrc.out
    rw [hlt1, hlt2] at hrun2
    have hTn3 : Aside (Touch Nil w w3) := hTn.transNew hT2 (fun j hj e => by have := hb1' j e; omega)
    have hb3 : Aside (∀ j, blk a2 j → w.heap.size ≤ j) := fun j hj => by
      rcases hb2 j hj with e | e
      · exact Nat.le_trans hTn.size e
      · exact hb1' j e
    have hfl0 : (forget i l).length ≤ 8 := by rw [forget_len i l hi]; omega
    have hlen3 : i + (l.length - (i + 1)) = (forget i l).length := by rw [forget_len i l hi]; omega
    rw [hlen3] at hrun2
    have hL3 : Aside (LAt 44 w3 a2 cap2 (forget i l)) := hL2
    have hfl : Aside ((forget i l).length ≤ 8) := hfl0
    clear hfl0
    have hr0 : Aside (w.rowIs r 41 1 _) := hr
    have hr2 := hTn.row hr (by simp [Nil])
    have hr3 := hTn3.out.row hr (by simp [Nil])
    have c2 := hr2.cell (i := 0) (by omega)
    have c3 := hr3.cell (i := 0) (by omega)
    have f3 := hr3.frozen 0
    have i1 : (i : Int) ≤ (i : Int) + 1 := by omega
    have i2 : (i : Int) + 1 ≤ (l.length : Int) := by omega
    have i3 : (i : Int) ≤ (l.length : Int) := by omega
    have i4 : i + 1 ≤ cap := by omega
    have i5 : i + 1 ≤ l.length := by omega
    have i6 : i ≤ cap := by omega
    have i7 : ((i : Int) + 1).toNat = i + 1 := by omega
    have i8 : 0 ≤ (i : Int) + 1 := by omega
    have i9 : IntKind.i64.wrap ((i : Int) + 1) = (i : Int) + 1 := by rw [IntKind.wrap_i64]; omega
    have j1 : i ≤ l.length := by omega
    clear hr2 hr3 hr hL2 hT2 hb2 hTn hL hLg hsrc hb1 hb1' hT1 hL1 hlt1 hlt2 hh hn hlen3
    go_region_law (first
      | refine step_append_run (P := Try.prog) rfl (.const (.slice none 0 0)) (.tmp 22) 39 rfl (.slice none 0 0) (.slice (some ⟨g, o, none⟩) i cap) (by simp [Act.eval]) (by simp [Act.eval, Act.put]) 39 rfl hrun1 ?_
      | refine step_append_run (P := Try.prog) rfl (.tmp 23) (.tmp 30) 39 rfl (.slice a1 i cap1) (.slice (some A) (l.length - (i + 1)) (cap - (i + 1))) (by simp [Act.eval, Act.put]) (by simp [Act.eval, Act.put]) 39 rfl hrun2 ?_)
    all_goals
      go_wp2
      go_ret
      exact ⟨rfl, ⟨w.heap.size, RT.store hr0.out hTn3.out hL3.out hfl.out hb3.out⟩, (hTn3.out.mono (S' := (· = r)) (by simp [Nil])).setCell (p := ⟨r, 0, none⟩) rfl _⟩
end Go.Proofs.Ytleeodpnamnnfaa

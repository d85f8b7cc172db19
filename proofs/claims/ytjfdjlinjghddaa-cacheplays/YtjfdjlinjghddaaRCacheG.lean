/-
  The document's own caches: NewCaches; both held against each other.
-/
import Derived.Test.YtjfdjlinjghddaaRCacheF
namespace Go.Proofs.Ytjfdjlinjghddaa
open Go.ChangeShapes Go.WideShapes Go.ChangeAt Go.RowKit

/-- While they are made: k CPUs have theirs. -/
def RNewI (w : World) (k : Nat) (wr : World) : Prop := ∃ (v : Value) (D : Nat → Nat),
  wr.rowIs (w.heap.size + 1) 54 2 (fun i => if i = 0 then v else .slice (some ⟨w.heap.size, 0, none⟩) 8 8) ∧
  rowHas wr w.heap.size 24 8 (fun _ => .slice none 0 0) ∧ wr.ownsRow (w.heap.size + 2) 41 1 v k ((List.range k).map fun i => .slice (some ⟨D i, 0, none⟩) 4 4) ∧
  (∀ i, i < k → rowHas wr (D i) 24 4 (fun _ => .slice none 0 0)) ∧ (∀ i, i < k → w.heap.size + 1 < D i) ∧ (∀ i j, i < k → j < k → i ≠ j → D i ≠ D j) ∧ Touch Nil w wr ∧ w.heap.size + 2 ≤ wr.heap.size

theorem RNewI.done {w wr : World} {n : Nat} (h : RNewI w n wr) (h1 : 1 ≤ n) (h2 : n ≤ 2) : RCAt wr (w.heap.size + 1) w.heap.size (CQ.fresh n) := by
  obtain ⟨v, D, ht, hs, ho, hd, g1, g2, hT, g3⟩ := h
  obtain ⟨ho1, ho2⟩ := ho
  rcases ho2 with ⟨_, e⟩ | ⟨g, cap, cur, rfl, e1, e2, e3, e4, e5, e6⟩
  · omega
  · refine ⟨g, w.heap.size, cap, D, fun _ _ => .slice none 0 0, fun _ => .slice none 0 0, h1, h2, by omega, by omega, Nat.le_refl _, fun i hi => by have := g1 i hi; omega, fun i hi => by have := g1 i hi; omega, g2, e3, fun _ => SOK.none _ _, SOK.none _ _, ht, ?_, hs, hd, fun i _ k _ => Lst.nil _ _, fun k _ => Lst.nil _ _⟩
    refine ⟨cur.size, fun i => (cur[i]?).getD (.int .i64 0), by show n ≤ _; omega, ⟨cur, e2, rfl, fun i hi => by simp [hi]⟩, fun i hi => ?_⟩
    have hi' : i < n := hi
    have e7 : ((List.range n).map fun i => Value.slice (some ⟨D i, 0, none⟩) 4 4)[i]? = some (.slice (some ⟨D i, 0, none⟩) 4 4) := by simp [hi']
    rw [← e6, List.getElem?_take, if_pos (by omega)] at e7
    simp only [Array.getElem?_toList] at e7
    show (cur[i]?).getD _ = _
    rw [e7]; rfl

theorem RNewI.start (w : World) : RNewI w 0 ((w.alloc (.cells (madeCells #[.slice none 0 0] 8) 24)).alloc (.cells #[.slice none 0 0, .slice (some ⟨w.heap.size, 0, none⟩) 8 8] 54)) := by
  refine ⟨.slice none 0 0, fun _ => 0, ?_, ?_, World.ownsRow_nil _ _ _ _, fun i hi => by omega, fun i hi => by omega, fun i j hi => by omega, ((Touch.refl Nil w).alloc _).alloc _, by simp⟩
  · have := World.rowIs_alloc (w.alloc (.cells (madeCells #[.slice none 0 0] 8) 24)) #[.slice none 0 0, .slice (some ⟨w.heap.size, 0, none⟩) 8 8] 54 (fun i => if i = 0 then .slice none 0 0 else .slice (some ⟨w.heap.size, 0, none⟩) 8 8) (fun i hi => by
      have : i = 0 ∨ i = 1 := by simp at hi; omega
      rcases this with rfl | rfl <;> rfl)
    simpa using this
  · exact (rowHas_alloc w _ 24 8 _ (by rw [size_madeCells]; exact Nat.le_refl _) (fun i hi => (madeCells_get _ _ _ hi).trans (by simp [Nat.mod_one]))).alloc _

/-- One more CPU has its own. -/
theorem RNewI.step {w wr w' : World} {k : Nat} {v : Value} {D : Nat → Nat}
    (ht : wr.rowIs (w.heap.size + 1) 54 2 (fun i => if i = 0 then v else .slice (some ⟨w.heap.size, 0, none⟩) 8 8)) (hs : rowHas wr w.heap.size 24 8 (fun _ => .slice none 0 0))
    (hd : ∀ i, i < k → rowHas wr (D i) 24 4 (fun _ => .slice none 0 0)) (g1 : ∀ i, i < k → w.heap.size + 1 < D i) (g2 : ∀ i j, i < k → j < k → i ≠ j → D i ≠ D j) (hT : Touch Nil w wr) (g3 : w.heap.size + 2 ≤ wr.heap.size)
    (hown : wr.ownsRow (w.heap.size + 2) 41 1 v k ((List.range k).map fun i => .slice (some ⟨D i, 0, none⟩) 4 4))
    {wa : World} (hwa : wa = ((wr.alloc (.cells (madeCells #[.slice none 0 0] 4) 24)).alloc (.cells #[.slice (some ⟨wr.heap.size, 0, none⟩) 4 4] 41)).drew)
    {g cap : Nat} (ho' : w'.ownsRow (w.heap.size + 2) 41 1 (.slice (some ⟨g, 0, none⟩) (k + 1) cap) (k + 1) ((List.range k).map (fun i => Value.slice (some ⟨D i, 0, none⟩) 4 4) ++ [.slice (some ⟨wr.heap.size, 0, none⟩) 4 4])) (hg : wa.grownBy w' v.ownBlock) :
    RNewI w (k + 1) (w'.setCell ⟨w.heap.size + 1, 0, none⟩ (.slice (some ⟨g, 0, none⟩) (k + 1) cap)) := by
  have hz : wa.heap.size = wr.heap.size + 2 := by rw [hwa]; simp
  have hv : ∀ b, v.ownBlock = some b → w.heap.size + 2 ≤ b ∧ ∃ n f, rowHas wr b 41 n f := fun b hb => by
    obtain ⟨_, h2⟩ := hown
    rcases h2 with ⟨rfl, _⟩ | ⟨g', cp, cur, rfl, e1, e2, _⟩
    · simp [Value.ownBlock] at hb
    · have : g' = b := by simpa [Value.ownBlock] using hb
      subst this
      exact ⟨e1, cur.size, fun i => (cur[i]?).getD (.int .i64 0), rowHas.of ⟨cur, e2, rfl, fun i hi => by simp [hi]⟩⟩
  have tA : Touch Nil wr wa := by rw [hwa]; exact (((Touch.refl Nil wr).alloc _).alloc _).drew
  have tG : Touch (fun b => v.ownBlock = some b) wa w' := Touch.ofGrown' hg
  have hs1 := (hs.touch tA id).touch tG (fun e => by have := (hv _ e).1; omega)
  have ht1 := tG.row (tA.row ht id) (fun e => by have := (hv _ e).1; omega)
  have hdn : rowHas wa wr.heap.size 24 4 (fun _ => .slice none 0 0) := by
    rw [hwa]
    have := rowHas_alloc wr (madeCells #[.slice none 0 0] 4) 24 4 (fun _ => .slice none 0 0) (by rw [size_madeCells]; exact Nat.le_refl _) (fun i hi => (madeCells_get _ _ _ hi).trans (by simp [Nat.mod_one]))
    exact this.alloc _
  have hdn1 := hdn.touch tG (fun e => by obtain ⟨_, n, f, hr⟩ := hv _ e; exact absurd hr.lt (by omega))
  have hd1 : ∀ i, i < k → rowHas w' (D i) 24 4 (fun _ => .slice none 0 0) := fun i hi => ((hd i hi).touch tA id).touch tG (fun e => by
    obtain ⟨_, n, f, hr⟩ := hv _ e
    exact rowHas_ne (hd i hi) hr (by decide) rfl)
  have n0 : ∀ {b : Nat} {n : Nat} {f : Nat → Value}, rowHas w' b 24 n f → b ≠ w.heap.size + 1 := fun hr => rowHas_ne hr (rowHas.of ht1) (by decide)
  have tN : Touch Nil w w' := (hT.trans tA).transNew tG (fun b hb e => by have := (hv _ e).1; omega)
  have hDlt : ∀ i, i < k → D i < wr.heap.size := fun i hi => (hd i hi).lt
  have e0 : ∀ i, i < k → (fun i => if i = k then wr.heap.size else D i) i = D i := fun i hi => if_neg (by omega)
  refine ⟨.slice (some ⟨g, 0, none⟩) (k + 1) cap, fun i => if i = k then wr.heap.size else D i, (ht1.set 0 _).congr fun i _ => ?_, hs1.setOther (n0 hs1) _, ?_, fun i hi => ?_, fun i hi => ?_, fun i j hi hj hij => ?_, tN.setNew (by simp) _, ?_⟩
  · by_cases e : i = 0
    · rw [if_pos e, if_pos e]
    · rw [if_neg e, if_neg e]; simp [e]
  · have hne : g ≠ w.heap.size + 1 := by
      obtain ⟨_, h2⟩ := ho'
      rcases h2 with ⟨h2, _⟩ | ⟨g', cp, cur, h2, e1, _⟩
      · cases h2
      · cases h2; omega
    have hl : ((List.range (k + 1)).map fun i => Value.slice (some ⟨if i = k then wr.heap.size else D i, 0, none⟩) 4 4) = (List.range k).map (fun i => Value.slice (some ⟨D i, 0, none⟩) 4 4) ++ [.slice (some ⟨wr.heap.size, 0, none⟩) 4 4] := by
      rw [List.range_succ, List.map_append]
      congr 1
      · refine List.map_congr_left fun i hi => ?_
        have : i < k := by simpa using hi
        rw [if_neg (by omega)]
      · simp
    rw [hl]
    obtain ⟨h1, h2⟩ := ho'
    refine ⟨h1, h2.imp id ?_⟩
    rintro ⟨g', cp, cur, h2, e1, e2, e3⟩
    refine ⟨g', cp, cur, h2, e1, ?_, e3⟩
    cases h2
    rw [Below.heap_setCell _ _ _ _ (fun e => hne e)]; exact e2
  · show rowHas _ (if i = k then wr.heap.size else D i) _ _ _
    by_cases e : i = k
    · rw [if_pos e]; exact hdn1.setOther (n0 hdn1) _
    · rw [if_neg e]; exact (hd1 i (by omega)).setOther (n0 (hd1 i (by omega))) _
  · show w.heap.size + 1 < (if i = k then wr.heap.size else D i)
    by_cases e : i = k
    · rw [if_pos e]; omega
    · rw [if_neg e]; exact g1 i (by omega)
  · show (if i = k then wr.heap.size else D i) ≠ (if j = k then wr.heap.size else D j)
    by_cases e : i = k
    · rw [if_pos e, if_neg (by omega)]; have := hDlt j (by omega); omega
    · rw [if_neg e]
      by_cases e' : j = k
      · rw [if_pos e']; have := hDlt i (by omega); omega
      · rw [if_neg e']; exact g2 i j (by omega) (by omega) hij
  · have := tG.size; have := tA.size; simp; omega

set_option maxRecDepth 10000 in
set_option maxHeartbeats 4000000 in
theorem rcnew_any (w : World) (u : Int) :
    Calls Try.prog 19 #[.int .i64 u] w fun e w' => e = .returned (.pointer (some ⟨w.heap.size + 1, 0, none⟩)) ∧ RCAt w' (w.heap.size + 1) w.heap.size (CQ.fresh (CQ.many u)) ∧ Touch Nil w w' := by
  obtain ⟨n1, n2⟩ := CQ.many_b u
  have hN : min (max u 1) 2 = (CQ.many u : Int) := by unfold CQ.many; omega
  generalize CQ.many u = N at *
  have hmk8 := run_make_rows (P := Try.prog) 41 24 (.slice none 0 0) 1 24 (by kernel_rfl) (by kernel_rfl) 8 8 rfl (by omega) (by omega)
  have hmk4 := run_make_rows (P := Try.prog) 41 24 (.slice none 0 0) 1 24 (by kernel_rfl) (by kernel_rfl) 4 4 rfl (by omega) (by omega)
  obtain ⟨i0, hi0, hz0, hz1, hz2⟩ : ∃ i, Try.prog.info? 41 = some i ∧ i.zero = some (.slice none 0 0) ∧ i.size = 1 ∧ i.bytes = 24 := ⟨_, rfl, rfl, rfl, rfl⟩
  have hu : Try.prog.underlying 52 = some (.slice 41) := by kernel_rfl
  have hst := RNewI.start w
  go_enter Try.func19, Try.ntmps19
  go_wp2
  go_loopw [4] (fun i wr => ∃ k : Nat, k ≤ N ∧ i = .int .i64 k ∧ RNewI w k wr) (fun i _ => N - (intOf i).toNat)
  case atStart => exact ⟨0, by omega, rfl, hst⟩
  case round =>
    clear hst hmk8
    obtain ⟨k, hk, rfl, hI⟩ := hrel
    by_cases hlt : k < N
    · have k1 : (k : Int) < N := by omega
      obtain ⟨v, D, ht, hs, hown, hd, g1, g2, hT, g3⟩ := hI
      have c0 : wr.cell? ⟨w.heap.size + 1, 0, none⟩ = some v := ht.cell (i := 0) (by omega)
      obtain ⟨wa, hwa⟩ : ∃ wa, wa = ((wr.alloc (.cells (madeCells #[.slice none 0 0] 4) 24)).alloc (.cells #[.slice (some ⟨wr.heap.size, 0, none⟩) 4 4] 41)).drew := ⟨_, rfl⟩
      have howa : wa.ownsRow (w.heap.size + 2) 41 1 v k ((List.range k).map fun i => .slice (some ⟨D i, 0, none⟩) 4 4) := by
        rw [hwa]
        exact World.ownsRow.alloc (World.ownsRow.alloc hown _) _
      have hnew : wa.cell? ((⟨wr.heap.size + 1, 0, none⟩ : Addr).add 0) = some (.slice (some ⟨wr.heap.size, 0, none⟩) 4 4) := by
        rw [hwa, Addr.add_mid]
        simp
      have tA : Touch Nil wr wa := by rw [hwa]; exact (((Touch.refl Nil wr).alloc _).alloc _).drew
      have ca : (wr.alloc (.cells (madeCells #[.slice none 0 0] 4) 24)).drew.cell? ⟨w.heap.size + 1, 0, none⟩ = some v := ((((Touch.refl Nil wr).alloc _).drew).row ht id).cell (i := 0) (by omega)
      have cb : wa.cell? ⟨w.heap.size + 1, 0, none⟩ = some v := (tA.row ht id).cell (i := 0) (by omega)
      obtain ⟨g, cap, w', hr, ho', hg, _, _⟩ := run_append_lies (P := Try.prog) wa 52 52 (w.heap.size + 2) 41 i0 (.slice none 0 0) 1 24 hu hi0 hz0 hz1 hz2 rfl (by decide) v k _ howa ⟨wr.heap.size + 1, 0, none⟩ 1 1 [.slice (some ⟨wr.heap.size, 0, none⟩) 4 4] rfl (fun j y hy => by
        match j, hy with
        | 0, hy => simp at hy; subst hy; exact hnew) (fun y hy => by simp at hy; subst hy; rfl) (by omega) (by unfold maxLen; omega) (by omega) (by rw [hwa]; simp; omega) _ rfl
      have hfin := RNewI.step ht hs hd g1 g2 hT g3 hown hwa ho' hg
      have hvb : ∀ b, v.ownBlock = some b → w.heap.size + 2 ≤ b := fun b hb => (hown.lt b hb).1
      have hne : some (w.heap.size + 1) ≠ v.ownBlock := fun e => by have := hvb _ e.symm; omega
      have c1 : w'.cell? ⟨w.heap.size + 1, 0, none⟩ = some v := by
        exact hg.cell cb hne
      have fz : w'.frozen? ⟨w.heap.size + 1, 0, none⟩ = false := by
        have hr1 : wa.rowIs (w.heap.size + 1) 54 2 (fun i => if i = 0 then v else .slice (some ⟨w.heap.size, 0, none⟩) 8 8) := by
          exact tA.row ht id
        exact ((Touch.ofGrown' hg).row hr1 (fun e => hne e.symm)).frozen 0
      rw [hwa] at hr cb
      have cc : ((wr.alloc (.cells (madeCells #[.slice none 0 0] 4) 24)).alloc (.cells #[.slice (some ⟨wr.heap.size, 0, none⟩) 4 4] 41)).cell? ⟨w.heap.size + 1, 0, none⟩ = some v := cb
      obtain ⟨av, nv, cv, hvf⟩ : ∃ av nv cv, v = .slice av nv cv := by
        rcases hown.2 with ⟨e, _⟩ | ⟨g', cp, cur, e, _⟩
        · exact ⟨_, _, _, e⟩
        · exact ⟨_, _, _, e⟩
      subst hvf
      clear ht hs hown hd g1 g2 howa ho' hg hvb hne hwa hnew tA
      go_wp2
      go_region_law (refine step_append_run (P := Try.prog) rfl (.tmp 19) (.tmp 21) 52 rfl (.slice av nv cv) (.slice (some ⟨wr.heap.size + 1, 0, none⟩) 1 1) (by simp [Act.eval]) (by simp [Act.eval]) 52 rfl hr ?_)
      all_goals
        go_wp2
        go_roundw
        · exact ⟨k + 1, by omega, by push_cast; rfl, hfin⟩
        · simp [intOf]; omega
    · have hkN : k = N := by omega
      subst hkN
      go_wp2
      go_ret
      exact ⟨rfl, hI.done n1 n2, by obtain ⟨v, D, ht, hs, hown, hd, g1, g2, hT, g3⟩ := hI; exact hT⟩
end Go.Proofs.Ytjfdjlinjghddaa

/-
  What cloning caches comes to.
-/
import Derived.Test.YtjfdjlinjghddaaCacheE
namespace Go.Proofs.Ytjfdjlinjghddaa
open Go.ChangeShapes Go.WideShapes Go.ChangeAt Go.RowKit

set_option maxRecDepth 10000 in
set_option maxHeartbeats 1000000 in
theorem stclone_any {w : World} {p o c cap K V : Nat} {S : Sets} (h : SAt w p o c cap K V S) :
    Calls Try.prog 35 #[.pointer (some ⟨p, o, none⟩)] w fun e w' => ∃ c' cap', e = .returned (.agg #[.int .i64 V, .slice (some ⟨c', 0, none⟩) (K * V) cap']) ∧ w.heap.size < c' ∧ rowHas w' c' 3 (K * V) (fun i => .int .i64 (tg S V i)) ∧ Touch Nil w w' ∧ K * V ≤ cap' ∧ cap' ≤ maxLen := by
  have hkv : K * V ≤ 64 := by rcases h.kv with ⟨rfl, rfl⟩ | ⟨rfl, rfl⟩ <;> omega
  have hT0 : Touch Nil w (w.alloc (.cells #[.int .i64 0, .slice none 0 0] 45)) := (Touch.refl Nil w).alloc _
  have h1 := h.touch hT0 id id
  have hrow := World.rowIs_alloc w #[.int .i64 0, .slice none 0 0] 45 (fun i => if i = 0 then .int .i64 0 else .slice none 0 0) (fun i hi => by
      have : i = 0 ∨ i = 1 := by simp at hi; omega
      rcases this with rfl | rfl <;> rfl)
  have hz : w.heap.size < (w.alloc (.cells #[.int .i64 0, .slice none 0 0] 45)).heap.size := by simp
  go_enter Try.func35, Try.ntmps35
  go_wp2
  generalize w.alloc (.cells #[.int .i64 0, .slice none 0 0] 45) = w0 at *
  have hw := h1.ways
  have hl := h1.lines
  go_region_with (go_at_call 29; refine (iclone_any (w := w0.drew) h1.row hkv).mono ?_; rintro e w1 ⟨c', cap', rfl, hge, hr1, hT1, k1, k2⟩; have hT1' : Touch Nil w0 w1 := ((Touch.refl Nil w0).drew).trans hT1; have hw1 := (h1.touch hT1' id id).ways; have d0 := (hT1'.row hrow id).cell (i := 0) (by simp); have d1 := (hT1'.row hrow id).cell (i := 1) (by simp); have e0 := (hT1'.row hrow id).frozen 0; have e1 := (hT1'.row hrow id).frozen 1)
  all_goals
    go_wp2
    have hne : w.heap.size ≠ c' := by have : w0.heap.size ≤ c' := hge; omega
    refine bodyPost_ret (v := .agg #[.int .i64 V, .slice (some ⟨c', 0, none⟩) (K * V) cap']) (by simp [results, Try.results35, go_sem, d0, d1]) rfl ⟨c', cap', rfl, ?_, (hr1.setOther (Ne.symm hne) _).setOther (Ne.symm hne) _, ((hT0.trans hT1').setNew (by simp) _).setNew (by simp) _, k1, k2⟩
    have : w0.heap.size ≤ c' := hge
    omega

/-- Caches that are being cloned: k CPUs have theirs. -/
def CloneI (w : World) (q : CQ) (k b : Nat) (wr : World) : Prop := ∃ (cf cs caps : Nat) (C capC : Nat → Nat),
  wr.rowIs b 48 3 (fun i => if i = 0 then .slice (some ⟨cf, 0, none⟩) q.n q.n else if i = 1 then .int .i64 4 else .slice (some ⟨cs, 0, none⟩) 32 caps) ∧
  rowHas wr cf 45 (q.n * 2) (fun i => if i / 2 < k then (if i % 2 = 0 then .int .i64 2 else .slice (some ⟨C (i / 2), 0, none⟩) 8 (capC (i / 2))) else (if i % 2 = 0 then .int .i64 0 else .slice none 0 0)) ∧
  rowHas wr cs 3 32 (fun j => .int .i64 (tg q.Sh 4 j)) ∧ (∀ i, i < k → rowHas wr (C i) 3 8 (fun j => .int .i64 (tg (q.F i) 2 j))) ∧
  w.heap.size ≤ cf ∧ w.heap.size ≤ cs ∧ (∀ i : Nat, i < k → w.heap.size ≤ C i ∧ C i ≠ cs) ∧ (∀ i j : Nat, i < k → j < k → i ≠ j → C i ≠ C j) ∧
  (32 ≤ caps ∧ caps ≤ maxLen) ∧ (∀ i, i < k → 8 ≤ capC i ∧ capC i ≤ maxLen) ∧ Touch Nil w wr ∧ w.heap.size ≤ b ∧ b < wr.heap.size

theorem CloneI.done {w wr : World} {q : CQ} {b : Nat} (h : CloneI w q q.n b wr) (h1 : 1 ≤ q.n) (h2 : q.n ≤ 2) (okF : ∀ i, SOK 4 2 (q.F i)) (okS : SOK 8 4 q.Sh) : CAt wr b w.heap.size wr.heap.size q := by
  obtain ⟨cf, cs, caps, C, capC, ht, hf, hs, hl, g1, g2, g3, g4, k1, k2, hT, g5, g6⟩ := h
  refine ⟨cf, cs, q.n, caps, C, capC, h1, h2, ⟨by omega, g6⟩, ⟨g1, hf.lt⟩, ⟨g2, hs.lt⟩, fun i hi => ⟨(g3 i hi).1, (hl i hi).lt⟩, fun i hi => (g3 i hi).2, g4, Nat.le_refl _, k1, k2, okF, okS, ht, ?_, hl, hs⟩
  refine hf.congr fun i hi => ?_
  rw [if_pos (by omega)]

theorem cloneI_mk {w w2 : World} {q : CQ} {cf cs caps : Nat} (hf : rowHas w2 cf 45 (q.n * 2) (fun i => if i % 2 = 0 then .int .i64 0 else .slice none 0 0)) (hs : rowHas w2 cs 3 32 (fun j => .int .i64 (tg q.Sh 4 j))) (hT : Touch Nil w w2) (g1 : w.heap.size ≤ cf) (g2 : w.heap.size ≤ cs) (k1 : 32 ≤ caps ∧ caps ≤ maxLen) :
    CloneI w q 0 w2.heap.size (w2.alloc (.cells #[.slice (some ⟨cf, 0, none⟩) q.n q.n, .int .i64 4, .slice (some ⟨cs, 0, none⟩) 32 caps] 48)) := by
  refine ⟨cf, cs, caps, fun _ => 0, fun _ => 0, ?_, (hf.alloc _).congr fun i _ => by simp, hs.alloc _, fun i hi => by omega, g1, g2, fun i hi => by omega, fun i j hi => by omega, k1, fun i hi => by omega, hT.alloc _, hT.size, by simp⟩
  exact World.rowIs_alloc w2 #[.slice (some ⟨cf, 0, none⟩) q.n q.n, .int .i64 4, .slice (some ⟨cs, 0, none⟩) 32 caps] 48 (fun i => if i = 0 then .slice (some ⟨cf, 0, none⟩) q.n q.n else if i = 1 then .int .i64 4 else .slice (some ⟨cs, 0, none⟩) 32 caps) (fun i hi => by
    have : i = 0 ∨ i = 1 ∨ i = 2 := by simp at hi; omega
    rcases this with rfl | rfl | rfl <;> rfl)

theorem cloneI_step {w w1 : World} {q : CQ} {k b cf cs caps : Nat} {C capC : Nat → Nat}
    (h1 : w1.rowIs b 48 3 (fun i => if i = 0 then .slice (some ⟨cf, 0, none⟩) q.n q.n else if i = 1 then .int .i64 4 else .slice (some ⟨cs, 0, none⟩) 32 caps))
    (h2 : rowHas w1 cf 45 (q.n * 2) (fun i => if i / 2 < k then (if i % 2 = 0 then .int .i64 2 else .slice (some ⟨C (i / 2), 0, none⟩) 8 (capC (i / 2))) else (if i % 2 = 0 then .int .i64 0 else .slice none 0 0)))
    (h3 : rowHas w1 cs 3 32 (fun j => .int .i64 (tg q.Sh 4 j))) (h4 : ∀ i, i < k → rowHas w1 (C i) 3 8 (fun j => .int .i64 (tg (q.F i) 2 j))) (g1 : w.heap.size ≤ cf) (g2 : w.heap.size ≤ cs) (g3 : ∀ i : Nat, i < k → w.heap.size ≤ C i ∧ C i ≠ cs)
    (g4 : ∀ i j : Nat, i < k → j < k → i ≠ j → C i ≠ C j) (k1 : 32 ≤ caps ∧ caps ≤ maxLen) (k2 : ∀ i, i < k → 8 ≤ capC i ∧ capC i ≤ maxLen) (hT : Touch Nil w w1) (g5 : w.heap.size ≤ b) (g6 : b < w1.heap.size)
    {c cap : Nat} (hc : rowHas w1 c 3 8 (fun j => .int .i64 (tg (q.F k) 2 j))) (hcap : 8 ≤ cap ∧ cap ≤ maxLen) (c1 : cs < c) (c2 : ∀ i, i < k → C i < c) :
    CloneI w q (k + 1) b ((w1.setCell ⟨cf, k * 2, none⟩ (.int .i64 2)).setCell ⟨cf, k * 2 + 1, none⟩ (.slice (some ⟨c, 0, none⟩) 8 cap)) := by
  have n1 : cf ≠ c := rowHas_ne h2 hc (by decide)
  have n2 : cf ≠ cs := rowHas_ne h2 h3 (by decide)
  have n3 : b ≠ cf := rowHas_ne (rowHas.of h1) h2 (by decide)
  have n4 : ∀ i, i < k → cf ≠ C i := fun i hi => rowHas_ne h2 (h4 i hi) (by decide)
  refine ⟨cf, cs, caps, fun i => if i = k then c else C i, fun i => if i = k then cap else capC i, (h1.setOther n3 _).setOther n3 _, ((h2.set _ _).set _ _).congr fun i hi => ?_, (h3.setOther (Ne.symm n2) _).setOther (Ne.symm n2) _, fun i hi => ?_, g1, g2, fun i hi => ?_, fun i j hi hj hij => ?_, k1, fun i hi => ?_, (hT.setNew g1 _).setNew g1 _, g5, by simpa using g6⟩
  · show (if i = k * 2 + 1 then _ else if i = k * 2 then _ else if i / 2 < k then _ else _) = (if i / 2 < k + 1 then (if i % 2 = 0 then _ else Value.slice (some ⟨if i / 2 = k then c else C (i / 2), 0, none⟩) 8 (if i / 2 = k then cap else capC (i / 2))) else _)
    by_cases e1 : i = k * 2 + 1
    · have a1 : i / 2 < k + 1 := by omega
      have a2 : ¬ i % 2 = 0 := by omega
      have a3 : i / 2 = k := by omega
      rw [if_pos e1, if_pos a1, if_neg a2, if_pos a3, if_pos a3]
    · rw [if_neg e1]
      by_cases e2 : i = k * 2
      · have a1 : i / 2 < k + 1 := by omega
        have a2 : i % 2 = 0 := by omega
        rw [if_pos e2, if_pos a1, if_pos a2]
      · rw [if_neg e2]
        by_cases e3 : i / 2 < k
        · have a1 : i / 2 < k + 1 := by omega
          have a3 : ¬ i / 2 = k := by omega
          rw [if_pos e3, if_pos a1, if_neg a3, if_neg a3]
        · have a1 : ¬ i / 2 < k + 1 := by omega
          rw [if_neg e3, if_neg a1]
  · show rowHas _ (if i = k then c else C i) _ _ _
    by_cases e : i = k
    · rw [if_pos e, e]; exact (hc.setOther (Ne.symm n1) _).setOther (Ne.symm n1) _
    · rw [if_neg e]
      have hi' : i < k := by omega
      exact ((h4 i hi').setOther (Ne.symm (n4 i hi')) _).setOther (Ne.symm (n4 i hi')) _
  · show w.heap.size ≤ (if i = k then c else C i) ∧ (if i = k then c else C i) ≠ cs
    by_cases e : i = k
    · rw [if_pos e]; omega
    · rw [if_neg e]; exact g3 i (by omega)
  · show (if i = k then c else C i) ≠ (if j = k then c else C j)
    by_cases e : i = k
    · rw [if_pos e, if_neg (by omega)]; have := c2 j (by omega); omega
    · rw [if_neg e]
      by_cases e' : j = k
      · rw [if_pos e']; have := c2 i (by omega); omega
      · rw [if_neg e']; exact g4 i j (by omega) (by omega) hij
  · show 8 ≤ (if i = k then cap else capC i) ∧ (if i = k then cap else capC i) ≤ maxLen
    by_cases e : i = k
    · rw [if_pos e]; exact hcap
    · rw [if_neg e]; exact k2 i (by omega)

set_option maxRecDepth 10000 in
set_option maxHeartbeats 4000000 in
theorem cclone_any {w : World} {b lo hi : Nat} {q : CQ} (h : CAt w b lo hi q) :
    Calls Try.prog 23 #[.pointer (some ⟨b, 0, none⟩)] w fun e w' => ∃ b', e = .returned (.pointer (some ⟨b', 0, none⟩)) ∧ CAt w' b' w.heap.size w'.heap.size q ∧ Touch Nil w w' := by
  obtain ⟨cf, cs, capf, caps, C, capC, h⟩ := h
  have h0 := h.top0
  have n1 := h.n1
  have n2 := h.n2
  have hmk := run_make_rows (P := Try.prog) 43 45 stZ 2 32 (by kernel_rfl) (by kernel_rfl) _ q.n rfl (by omega) (by omega)
  go_enter Try.func23, Try.ntmps23
  go_wp2
  go_cut [3] (fun v wx => ∃ b', v = .pointer (some ⟨b', 0, none⟩) ∧ CloneI w q 0 b' wx)
  case first =>
    go_region_with (first
      | (go_at_call 35; refine (stclone_any ((h.drewN 1).sh)).mono ?_; rintro e w1 ⟨c', cap', rfl, hge, hr1, hT1, k1, k2⟩; have hT1' : Touch Nil w w1 := ((Touch.refl Nil w).drew).trans hT1; have h0' := (h.touch hT1' (fun _ _ _ e => e)).top0)
      | (go_at_call 35; refine (stclone_any ((h.touch (((Touch.refl Nil w).alloc (.cells (madeCells stZ.cells (q.n * 2)) 45)).drew) (fun _ _ _ e => e)).sh)).mono ?_; rintro e w1 ⟨c', cap', rfl, hge, hr1, hT1, k1, k2⟩; have hT1' : Touch Nil w w1 := (((Touch.refl Nil w).alloc _).drew).trans hT1))
    all_goals
      go_wp2
      go_meet
      refine ⟨_, rfl, ?_⟩
      first
        | exact cloneI_mk (w := w) (w2 := w1) (rowHas.touch (show rowHas (w.alloc (.cells (madeCells stZ.cells (q.n * 2)) 45)).drew w.heap.size _ _ _ from stZ_row w q.n) hT1 id) hr1 hT1' (Nat.le_refl _) (by have := hge; simp at this; omega) ⟨k1, k2⟩
        | (have hC := cloneI_mk (w := w) (w2 := w1.alloc (.cells (madeCells stZ.cells (q.n * 2)) 45)) (stZ_row w1 q.n) (hr1.alloc _) (hT1'.alloc _) hT1'.size (by have := hge; simp at this; omega) ⟨k1, k2⟩
           rw [show (w1.alloc (.cells (madeCells stZ.cells (q.n * 2)) 45)).heap.size = w1.heap.size + 1 by simp] at hC
           exact hC)
  case rest =>
  obtain ⟨b', rfl, hI⟩ := hcut
  have hTc : Touch Nil w wc := by
    obtain ⟨cf', cs', caps', C', capC', h1, h2, h3, h4, g1, g2, g3, g4, k1, k2, hT, g5, g6⟩ := hI
    exact hT
  have hc0 := (h.touch hTc (fun _ _ _ e => e)).top0
  go_wp2
  go_loopw [22] (fun i wr => ∃ k : Nat, k ≤ q.n ∧ i = .int .i64 k ∧ CloneI w q k b' wr) (fun i _ => q.n - (intOf i).toNat)
  case atStart => exact ⟨0, by omega, rfl, hI⟩
  case round =>
    clear hI hmk hc0 hTc
    obtain ⟨k, hk, rfl, hI⟩ := hrel
    by_cases hlt : k < q.n
    · have j1 : (k : Int) < q.n := by omega
      obtain ⟨cf', cs', caps', C', capC', h1, h2, h3, h4, g1, g2, g3, g4, k1, k2, hT, g5, g6⟩ := hI
      have t0 : wr.cell? ⟨b', 0, none⟩ = some (.slice (some ⟨cf', 0, none⟩) q.n q.n) := h1.cell (i := 0) (by omega)
      have hB := h.touch hT (fun _ _ _ e => e)
      have s0 := hB.top0
      go_wp2
      go_region_with (go_at_call 35; refine (stclone_any ((hB.drewN 1).cpu hlt)).mono ?_; rintro e w1 ⟨c', cap', rfl, hge, hr1, hT1, k3, k4⟩; have hT1' : Touch Nil wr w1 := ((Touch.refl Nil wr).drew).trans hT1; have t0' : w1.cell? ⟨b', 0, none⟩ = some (.slice (some ⟨cf', 0, none⟩) q.n q.n) := (hT1'.row h1 id).cell (i := 0) (by omega); have x0 := (h2.touch hT1' id).cell (i := k * 2) (by omega); have x1 := (h2.touch hT1' id).cell (i := k * 2 + 1) (by omega); have y0 := (h2.touch hT1' id).frozen (k * 2); have y1 := (h2.touch hT1' id).frozen (k * 2 + 1))
      all_goals
        have hst := cloneI_step (h1 := hT1'.row h1 id) (h2.touch hT1' id) (h3.touch hT1' id) (fun i hi => (h4 i hi).touch hT1' id) g1 g2 g3 g4 k1 k2 (hT.trans hT1') g5 (Nat.lt_of_lt_of_le g6 hT1'.size) (c := c') (cap := cap') hr1 ⟨k3, k4⟩ (by have := h3.lt; have : wr.heap.size < c' := hge; omega) (fun i hi => by have := (h4 i hi).lt; have : wr.heap.size < c' := hge; omega)
        generalize (w1.setCell ⟨cf', k * 2, none⟩ (.int .i64 2)).setCell ⟨cf', k * 2 + 1, none⟩ (.slice (some ⟨c', 0, none⟩) 8 cap') = w9 at *
        go_wp2
        go_roundw
        case rel => exact ⟨k + 1, by omega, by go_num, hst⟩
        case measure => simp [intOf]; omega
    · have hkN : k = q.n := by omega
      subst hkN
      go_wp2
      go_ret
      exact ⟨b', rfl, hI.done n1 n2 h.okF h.okS, by obtain ⟨cf', cs', caps', C', capC', h1, h2, h3, h4, g1, g2, g3, g4, k1, k2, hT, g5, g6⟩ := hI; exact hT⟩
end Go.Proofs.Ytjfdjlinjghddaa

/-
  What making caches comes to.
-/
import Derived.Test.YtjfdjlinjghddaaCacheD
import Derived.Deep.DeepCutAuto
import Derived.Deep.RegionWith
namespace Go.Proofs.Ytjfdjlinjghddaa
open Go.ChangeShapes Go.WideShapes Go.ChangeAt Go.RowKit

/-- While lines are made none. -/
def fillI (w : World) (K V k : Nat) (wr : World) : Prop :=
  wr.rowIs (w.heap.size + 1) 3 (K * V) (fun i => .int .i64 (if i < k then -1 else 0)) ∧
  wr.rowIs (w.heap.size + 1 + 1) 45 2 (fun i => if i = 0 then .int .i64 V else .slice (some ⟨w.heap.size + 1, 0, none⟩) (K * V) (K * V)) ∧
  rowHas wr w.heap.size 45 2 (fun i => if i = 0 then .int .i64 0 else .slice none 0 0) ∧ Touch Nil w wr ∧ wr.heap.size = w.heap.size + 3

theorem fillI_start (w : World) (K V : Nat) : fillI w K V 0 (((w.alloc (.cells #[.int .i64 0, .slice none 0 0] 45)).alloc (.cells (madeCells #[.int .i64 0] (K * V)) 3)).alloc (.cells #[.int .i64 V, .slice (some ⟨w.heap.size + 1, 0, none⟩) (K * V) (K * V)] 45)) := by
  refine ⟨?_, ?_, ?_, (((Touch.refl Nil w).alloc _).alloc _).alloc _, by simp⟩
  · have h1 := World.rowIs_alloc (w.alloc (.cells #[.int .i64 0, .slice none 0 0] 45)) (madeCells #[.int .i64 0] (K * V)) 3 (fun _ => .int .i64 0) (fun i hi => by
      rw [size_madeCells] at hi
      exact (madeCells_get _ _ _ hi).trans (by simp [Nat.mod_one]))
    rw [size_madeCells] at h1
    have h2 := h1.alloc (.cells #[.int .i64 V, .slice (some ⟨w.heap.size + 1, 0, none⟩) (K * V) (K * V)] 45)
    rw [show (w.alloc (.cells #[.int .i64 0, .slice none 0 0] 45)).heap.size = w.heap.size + 1 by simp] at h2
    exact h2.congr fun i _ => by simp
  · have := World.rowIs_alloc ((w.alloc (.cells #[.int .i64 0, .slice none 0 0] 45)).alloc (.cells (madeCells #[.int .i64 0] (K * V)) 3)) #[.int .i64 V, .slice (some ⟨w.heap.size + 1, 0, none⟩) (K * V) (K * V)] 45 (fun i => if i = 0 then .int .i64 V else .slice (some ⟨w.heap.size + 1, 0, none⟩) (K * V) (K * V)) (fun i hi => by
      have : i = 0 ∨ i = 1 := by simp at hi; omega
      rcases this with rfl | rfl <;> rfl)
    simpa using this
  · have := World.rowIs_alloc w #[.int .i64 0, .slice none 0 0] 45 (fun i => if i = 0 then .int .i64 0 else .slice none 0 0) (fun i hi => by
      have : i = 0 ∨ i = 1 := by simp at hi; omega
      rcases this with rfl | rfl <;> rfl)
    exact rowHas.of ((this.alloc _).alloc _)

set_option maxRecDepth 10000 in
set_option maxHeartbeats 1000000 in
theorem newStore_any (w : World) (K V : Nat) (kv : (K = 4 ∧ V = 2) ∨ (K = 8 ∧ V = 4)) :
    Calls Try.prog 26 #[.int .i64 K, .int .i64 V] w fun e w' => e = .returned (.agg #[.int .i64 V, .slice (some ⟨w.heap.size + 1, 0, none⟩) (K * V) (K * V)]) ∧ rowHas w' (w.heap.size + 1) 3 (K * V) (fun _ => .int .i64 (-1)) ∧ Touch Nil w w' ∧ w'.heap.size = w.heap.size + 3 := by
  have hs := fillI_start w K V
  have hmk := fun v (hv : v = ((K * V : Nat) : Int)) => run_make_rows (P := Try.prog) 24 3 (.int .i64 0) 1 8 (by kernel_rfl) (by kernel_rfl) v (K * V) hv (by rcases kv with ⟨rfl, rfl⟩ | ⟨rfl, rfl⟩ <;> omega) (by rcases kv with ⟨rfl, rfl⟩ | ⟨rfl, rfl⟩ <;> omega)
  rcases kv with ⟨rfl, rfl⟩ | ⟨rfl, rfl⟩
  · have hm := hmk 8 (by omega)
    simp only [Nat.mul_one] at hm
    clear hmk
    go_enter Try.func26, Try.ntmps26
    go_wp2
    go_loopw [16] (fun i wr => ∃ k : Nat, k ≤ 8 ∧ i = .int .i64 k ∧ fillI w 4 2 k wr) (fun i _ => 8 - (intOf i).toNat)
    case atStart => exact ⟨0, by omega, rfl, hs⟩
    case round =>
      clear hs hm
      obtain ⟨k, hk, rfl, h1, h2, h3, hT, hS⟩ := hrel
      have c0 : wr.cell? ⟨w.heap.size + 1 + 1, 0, none⟩ = some (.int .i64 2) := h2.cell (i := 0) (by omega)
      have c1 : wr.cell? ⟨w.heap.size + 1 + 1, 1, none⟩ = some (.slice (some ⟨w.heap.size + 1, 0, none⟩) 8 8) := h2.cell (i := 1) (by omega)
      by_cases hlt : k < 8
      · have k1 : (k : Int) < 8 := by omega
        have c2 := h1.cell (i := k) hlt
        have f2 := h1.frozen k
        go_wp2
        go_roundw
        case rel =>
          refine ⟨k + 1, by omega, by go_num, (h1.set k _).congr fun i _ => ?_, h2.setOther (by show _ ≠ w.heap.size + 1; omega) _, h3.setOther (by show _ ≠ w.heap.size + 1; omega) _, hT.setNew (by simp) _, by simpa using hS⟩
          by_cases e : i = k
          · rw [if_pos e, if_pos (by omega)]
          · rw [if_neg e]
            by_cases e2 : i < k
            · rw [if_pos e2, if_pos (by omega)]
            · rw [if_neg e2, if_neg (by omega)]
        case measure => simp [intOf]; omega
      · have hkn : k = 8 := by omega
        subst hkn
        have d0 : wr.cell? ⟨w.heap.size, 0, none⟩ = some (.int .i64 0) := h3.cell (i := 0) (by omega)
        have d1 : wr.cell? ⟨w.heap.size, 1, none⟩ = some (.slice none 0 0) := h3.cell (i := 1) (by omega)
        have e0 := h3.frozen 0
        have e1 := h3.frozen 1
        go_wp2
        refine bodyPost_ret (v := .agg #[.int .i64 2, .slice (some ⟨w.heap.size + 1, 0, none⟩) 8 8]) (by simp [results, Try.results26, go_sem, d0, d1]) rfl ⟨rfl, ?_, (hT.setNew (by simp) _).setNew (by simp) _, by simpa using hS⟩
        exact rowHas.of (((h1.setOther (by show _ ≠ w.heap.size; omega) _).setOther (by show _ ≠ w.heap.size; omega) _).congr fun i hi => by rw [if_pos hi])
  · have hm := hmk 32 (by omega)
    simp only [Nat.mul_one] at hm
    clear hmk
    go_enter Try.func26, Try.ntmps26
    go_wp2
    go_loopw [16] (fun i wr => ∃ k : Nat, k ≤ 32 ∧ i = .int .i64 k ∧ fillI w 8 4 k wr) (fun i _ => 32 - (intOf i).toNat)
    case atStart => exact ⟨0, by omega, rfl, hs⟩
    case round =>
      clear hs hm
      obtain ⟨k, hk, rfl, h1, h2, h3, hT, hS⟩ := hrel
      have c0 : wr.cell? ⟨w.heap.size + 1 + 1, 0, none⟩ = some (.int .i64 4) := h2.cell (i := 0) (by omega)
      have c1 : wr.cell? ⟨w.heap.size + 1 + 1, 1, none⟩ = some (.slice (some ⟨w.heap.size + 1, 0, none⟩) 32 32) := h2.cell (i := 1) (by omega)
      by_cases hlt : k < 32
      · have k1 : (k : Int) < 32 := by omega
        have c2 := h1.cell (i := k) hlt
        have f2 := h1.frozen k
        go_wp2
        go_roundw
        case rel =>
          refine ⟨k + 1, by omega, by go_num, (h1.set k _).congr fun i _ => ?_, h2.setOther (by show _ ≠ w.heap.size + 1; omega) _, h3.setOther (by show _ ≠ w.heap.size + 1; omega) _, hT.setNew (by simp) _, by simpa using hS⟩
          by_cases e : i = k
          · rw [if_pos e, if_pos (by omega)]
          · rw [if_neg e]
            by_cases e2 : i < k
            · rw [if_pos e2, if_pos (by omega)]
            · rw [if_neg e2, if_neg (by omega)]
        case measure => simp [intOf]; omega
      · have hkn : k = 32 := by omega
        subst hkn
        have d0 : wr.cell? ⟨w.heap.size, 0, none⟩ = some (.int .i64 0) := h3.cell (i := 0) (by omega)
        have d1 : wr.cell? ⟨w.heap.size, 1, none⟩ = some (.slice none 0 0) := h3.cell (i := 1) (by omega)
        have e0 := h3.frozen 0
        have e1 := h3.frozen 1
        go_wp2
        refine bodyPost_ret (v := .agg #[.int .i64 4, .slice (some ⟨w.heap.size + 1, 0, none⟩) 32 32]) (by simp [results, Try.results26, go_sem, d0, d1]) rfl ⟨rfl, ?_, (hT.setNew (by simp) _).setNew (by simp) _, by simpa using hS⟩
        exact rowHas.of (((h1.setOther (by show _ ≠ w.heap.size; omega) _).setOther (by show _ ≠ w.heap.size; omega) _).congr fun i hi => by rw [if_pos hi])

/-- Caches that are being made: k CPUs have theirs. -/
def NewI (w : World) (n k : Nat) (wr : World) : Prop := ∃ (cf cs : Nat) (C : Nat → Nat),
  wr.rowIs (w.heap.size + 4) 48 3 (fun i => if i = 0 then .slice (some ⟨cf, 0, none⟩) n n else if i = 1 then .int .i64 4 else .slice (some ⟨cs, 0, none⟩) 32 32) ∧
  rowHas wr cf 45 (n * 2) (fun i => if i / 2 < k then (if i % 2 = 0 then .int .i64 2 else .slice (some ⟨C (i / 2), 0, none⟩) 8 8) else (if i % 2 = 0 then .int .i64 0 else .slice none 0 0)) ∧
  rowHas wr cs 3 32 (fun _ => .int .i64 (-1)) ∧ (∀ i, i < k → rowHas wr (C i) 3 8 (fun _ => .int .i64 (-1))) ∧
  w.heap.size ≤ cf ∧ w.heap.size ≤ cs ∧ (∀ i : Nat, i < k → w.heap.size ≤ C i ∧ C i ≠ cs) ∧ (∀ i j : Nat, i < k → j < k → i ≠ j → C i ≠ C j) ∧ Touch Nil w wr ∧ w.heap.size + 4 < wr.heap.size

theorem NewI.done {w wr : World} {n : Nat} (h : NewI w n n wr) (h1 : 1 ≤ n) (h2 : n ≤ 2) : CAt wr (w.heap.size + 4) w.heap.size wr.heap.size (CQ.fresh n) := by
  obtain ⟨cf, cs, C, ht, hf, hs, hl, g1, g2, g3, g4, hT, g5⟩ := h
  have e : ∀ V j, tg (fun _ => []) V j = -1 := fun V j => by simp [tg, wy]
  refine ⟨cf, cs, n, 32, C, fun _ => 8, h1, h2, ⟨by omega, g5⟩, ⟨g1, hf.lt⟩, ⟨g2, hs.lt⟩, fun i hi => ⟨(g3 i hi).1, (hl i hi).lt⟩, fun i hi => (g3 i hi).2, g4, Nat.le_refl _, ⟨Nat.le_refl _, by unfold maxLen; omega⟩, fun i hi => ⟨Nat.le_refl _, by unfold maxLen; omega⟩, fun _ => SOK.none _ _, SOK.none _ _, ht, ?_, fun i hi => ?_, ?_⟩
  · refine hf.congr fun i hi => ?_
    have hi' : i < n * 2 := hi
    rw [if_pos (by omega)]
  · refine (hl i hi).congr fun j _ => ?_
    show _ = Value.int .i64 (tg (fun _ => []) 2 j)
    rw [e]
  · refine hs.congr fun j _ => ?_
    show _ = Value.int .i64 (tg (fun _ => []) 4 j)
    rw [e]

abbrev stZ : Value := .agg #[.int .i64 0, .slice none 0 0]
theorem stZ_get (n i : Nat) (h : i < n * 2) : (madeCells stZ.cells (n * 2))[i]? = some (if i % 2 = 0 then .int .i64 0 else .slice none 0 0) := by
  rw [madeCells_get _ _ _ h]
  have hs : stZ.cells.size = 2 := rfl
  rw [hs]
  have : i % 2 = 0 ∨ i % 2 = 1 := by omega
  rcases this with e | e <;> rw [e] <;> rfl
theorem stZ_row (w : World) (n : Nat) : rowHas (w.alloc (.cells (madeCells stZ.cells (n * 2)) 45)) w.heap.size 45 (n * 2) (fun i => if i % 2 = 0 then .int .i64 0 else .slice none 0 0) :=
  rowHas_alloc w _ _ _ _ (by rw [size_madeCells]; exact Nat.le_refl _) (fun i hi => stZ_get n i hi)

theorem newI_mk {w w2 : World} {n cf cs : Nat} (hf : rowHas w2 cf 45 (n * 2) (fun i => if i % 2 = 0 then .int .i64 0 else .slice none 0 0)) (hs : rowHas w2 cs 3 32 (fun _ => .int .i64 (-1))) (hT : Touch Nil w w2) (hz : w2.heap.size = w.heap.size + 4) (g1 : w.heap.size ≤ cf) (g2 : w.heap.size ≤ cs) :
    NewI w n 0 (w2.alloc (.cells #[.slice (some ⟨cf, 0, none⟩) n n, .int .i64 4, .slice (some ⟨cs, 0, none⟩) 32 32] 48)) := by
  refine ⟨cf, cs, fun _ => 0, ?_, (hf.alloc _).congr fun i _ => by simp, hs.alloc _, fun i hi => by omega, g1, g2, fun i hi => by omega, fun i j hi => by omega, hT.alloc _, by simp; omega⟩
  have := World.rowIs_alloc w2 #[.slice (some ⟨cf, 0, none⟩) n n, .int .i64 4, .slice (some ⟨cs, 0, none⟩) 32 32] 48 (fun i => if i = 0 then .slice (some ⟨cf, 0, none⟩) n n else if i = 1 then .int .i64 4 else .slice (some ⟨cs, 0, none⟩) 32 32) (fun i hi => by
    have : i = 0 ∨ i = 1 ∨ i = 2 := by simp at hi; omega
    rcases this with rfl | rfl | rfl <;> rfl)
  rw [hz] at this
  exact this
theorem newI_a {w w1 : World} {n : Nat} (hr1 : rowHas w1 (w.heap.size + 1 + 1) 3 32 (fun _ => .int .i64 (-1))) (hT1 : Touch Nil (w.alloc (.cells (madeCells stZ.cells (n * 2)) 45)).drew w1) (hS1 : w1.heap.size = w.heap.size + 1 + 3) :
    NewI w n 0 (w1.alloc (.cells #[.slice (some ⟨w.heap.size, 0, none⟩) n n, .int .i64 4, .slice (some ⟨w.heap.size + 1 + 1, 0, none⟩) 32 32] 48)) :=
  newI_mk (rowHas.touch (show rowHas (w.alloc (.cells (madeCells stZ.cells (n * 2)) 45)).drew w.heap.size _ _ _ from stZ_row w n) hT1 id) hr1 ((((Touch.refl Nil w).alloc _).drew).trans hT1) (by omega) (Nat.le_refl _) (by omega)
theorem newI_b {w w1 : World} {n : Nat} (hr1 : rowHas w1 (w.heap.size + 1) 3 32 (fun _ => .int .i64 (-1))) (hT1 : Touch Nil w.drew w1) (hS1 : w1.heap.size = w.heap.size + 3) :
    NewI w n 0 ((w1.alloc (.cells (madeCells stZ.cells (n * 2)) 45)).alloc (.cells #[.slice (some ⟨w.heap.size + 3, 0, none⟩) n n, .int .i64 4, .slice (some ⟨w.heap.size + 1, 0, none⟩) 32 32] 48)) := by
  refine newI_mk ?_ (hr1.alloc _) ((((Touch.refl Nil w).drew).trans hT1).alloc _) (by simp; omega) (by omega) (by omega)
  rw [← hS1]; exact stZ_row w1 n

/-- One more CPU has its own. -/
theorem newI_step {w w1 : World} {n k cf cs : Nat} {C : Nat → Nat}
    (h1 : w1.rowIs (w.heap.size + 4) 48 3 (fun i => if i = 0 then .slice (some ⟨cf, 0, none⟩) n n else if i = 1 then .int .i64 4 else .slice (some ⟨cs, 0, none⟩) 32 32))
    (h2 : rowHas w1 cf 45 (n * 2) (fun i => if i / 2 < k then (if i % 2 = 0 then .int .i64 2 else .slice (some ⟨C (i / 2), 0, none⟩) 8 8) else (if i % 2 = 0 then .int .i64 0 else .slice none 0 0)))
    (h3 : rowHas w1 cs 3 32 (fun _ => .int .i64 (-1))) (h4 : ∀ i, i < k → rowHas w1 (C i) 3 8 (fun _ => .int .i64 (-1))) (g1 : w.heap.size ≤ cf) (g2 : w.heap.size ≤ cs) (g3 : ∀ i : Nat, i < k → w.heap.size ≤ C i ∧ C i ≠ cs)
    (g4 : ∀ i j : Nat, i < k → j < k → i ≠ j → C i ≠ C j) (hT : Touch Nil w w1) (g5 : w.heap.size + 4 < w1.heap.size)
    {c : Nat} (hc : rowHas w1 c 3 8 (fun _ => .int .i64 (-1))) (c1 : cs < c) (c2 : ∀ i, i < k → C i < c) :
    NewI w n (k + 1) ((w1.setCell ⟨cf, k * 2, none⟩ (.int .i64 2)).setCell ⟨cf, k * 2 + 1, none⟩ (.slice (some ⟨c, 0, none⟩) 8 8)) := by
  have n1 : cf ≠ c := rowHas_ne h2 hc (by decide)
  have n2 : cf ≠ cs := rowHas_ne h2 h3 (by decide)
  have n3 : w.heap.size + 4 ≠ cf := rowHas_ne (rowHas.of h1) h2 (by decide)
  have n4 : ∀ i, i < k → cf ≠ C i := fun i hi => rowHas_ne h2 (h4 i hi) (by decide)
  refine ⟨cf, cs, fun i => if i = k then c else C i, (h1.setOther n3 _).setOther n3 _, ((h2.set _ _).set _ _).congr fun i hi => ?_, (h3.setOther (Ne.symm n2) _).setOther (Ne.symm n2) _, fun i hi => ?_, g1, g2, fun i hi => ?_, fun i j hi hj hij => ?_, (hT.setNew g1 _).setNew g1 _, by simpa using g5⟩
  · show (if i = k * 2 + 1 then _ else if i = k * 2 then _ else if i / 2 < k then _ else _) = (if i / 2 < k + 1 then (if i % 2 = 0 then _ else Value.slice (some ⟨if i / 2 = k then c else C (i / 2), 0, none⟩) 8 8) else _)
    by_cases e1 : i = k * 2 + 1
    · have a1 : i / 2 < k + 1 := by omega
      have a2 : ¬ i % 2 = 0 := by omega
      have a3 : i / 2 = k := by omega
      rw [if_pos e1, if_pos a1, if_neg a2, if_pos a3]
    · rw [if_neg e1]
      by_cases e2 : i = k * 2
      · have a1 : i / 2 < k + 1 := by omega
        have a2 : i % 2 = 0 := by omega
        rw [if_pos e2, if_pos a1, if_pos a2]
      · rw [if_neg e2]
        by_cases e3 : i / 2 < k
        · have a1 : i / 2 < k + 1 := by omega
          have a3 : ¬ i / 2 = k := by omega
          rw [if_pos e3, if_pos a1, if_neg a3]
        · have a1 : ¬ i / 2 < k + 1 := by omega
          rw [if_neg e3, if_neg a1]
  · show rowHas _ (if i = k then c else C i) _ _ _
    by_cases e : i = k
    · rw [if_pos e]; exact (hc.setOther (Ne.symm n1) _).setOther (Ne.symm n1) _
    · rw [if_neg e]
      have hi' : i < k := by omega
      exact ((h4 i hi').setOther (Ne.symm (n4 i hi')) _).setOther (Ne.symm (n4 i hi')) _
  · show w.heap.size ≤ (if i = k then c else C i) ∧ (if i = k then c else C i) ≠ cs
    by_cases e : i = k
    · rw [if_pos e]; omega
    · rw [if_neg e]; exact g3 i (by omega)
  · show (if i = k then c else C i) ≠ (if j = k then c else C j)
    by_cases e : i = k
    · rw [if_pos e, if_neg (by omega)]; have := c2 j (by omega); omega
    · rw [if_neg e]
      by_cases e' : j = k
      · rw [if_pos e']; have := c2 i (by omega); omega
      · rw [if_neg e']; exact g4 i j (by omega) (by omega) hij

set_option maxRecDepth 10000 in
set_option maxHeartbeats 4000000 in
theorem cnew_any (w : World) (u : Int) :
    Calls Try.prog 9 #[.int .i64 u] w fun e w' => e = .returned (.pointer (some ⟨w.heap.size + 4, 0, none⟩)) ∧ CAt w' (w.heap.size + 4) w.heap.size w'.heap.size (CQ.fresh (CQ.many u)) ∧ Touch Nil w w' := by
  obtain ⟨n1, n2⟩ := CQ.many_b u
  have hN : min (max u 1) 2 = (CQ.many u : Int) := by unfold CQ.many; omega
  generalize CQ.many u = N at *
  have hmk := run_make_rows (P := Try.prog) 43 45 stZ 2 32 (by kernel_rfl) (by kernel_rfl) _ N rfl (by omega) (by omega)
  go_enter Try.func9, Try.ntmps9
  go_wp2
  go_cut [3] (fun v wx => v = .pointer (some ⟨w.heap.size + 4, 0, none⟩) ∧ NewI w N 0 wx)
  case first =>
    go_region_with (go_at_call 26; refine (newStore_any _ 8 4 (Or.inr ⟨rfl, rfl⟩)).mono ?_; rintro e w1 ⟨rfl, hr1, hT1, hS1⟩)
    all_goals
      go_wp2
      go_meet
      refine ⟨rfl, ?_⟩
      first | exact newI_a (w := w) (by simpa using hr1) hT1 (by simpa using hS1) | exact newI_b (w := w) (by simpa using hr1) hT1 (by simpa using hS1)
  case rest =>
  obtain ⟨rfl, hI⟩ := hcut
  have t0 : ∃ cf, wc.cell? ⟨w.heap.size + 4, 0, none⟩ = some (.slice (some ⟨cf, 0, none⟩) N N) := by
    obtain ⟨cf, cs, C, ht, _⟩ := hI
    exact ⟨cf, ht.cell (i := 0) (by omega)⟩
  obtain ⟨cf0, t0⟩ := t0
  go_wp2
  go_loopw [17] (fun i wr => ∃ k : Nat, k ≤ N ∧ i = .int .i64 k ∧ NewI w N k wr) (fun i _ => N - (intOf i).toNat)
  case atStart => exact ⟨0, by omega, rfl, hI⟩
  case round =>
    clear hI t0 hmk hN
    obtain ⟨k, hk, rfl, hI⟩ := hrel
    by_cases hlt : k < N
    · have k1 : (k : Int) < N := by omega
      obtain ⟨cf, cs, C, h1, h2, h3, h4, g1, g2, g3, g4, hT, g5⟩ := hI
      have t0 : wr.cell? ⟨w.heap.size + 4, 0, none⟩ = some (.slice (some ⟨cf, 0, none⟩) N N) := h1.cell (i := 0) (by omega)
      have t1 := h1.lt
      go_wp2
      go_region_with (go_at_call 26; refine (newStore_any _ 4 2 (Or.inl ⟨rfl, rfl⟩)).mono ?_; rintro e w1 ⟨rfl, hr1, hT1, hS1⟩; have hT1' : Touch Nil wr w1 := ((Touch.refl Nil wr).drew).trans hT1; have t0' : w1.cell? ⟨w.heap.size + 4, 0, none⟩ = some (.slice (some ⟨cf, 0, none⟩) N N) := (World.cell?_of_block (hT1'.block _ t1 id)).trans t0; have x0 := (h2.touch hT1' id).cell (i := k * 2) (by omega); have x1 := (h2.touch hT1' id).cell (i := k * 2 + 1) (by omega); have y0 := (h2.touch hT1' id).frozen (k * 2); have y1 := (h2.touch hT1' id).frozen (k * 2 + 1))
      all_goals
        have hst := newI_step (h1 := hT1'.row h1 id) (h2.touch hT1' id) (h3.touch hT1' id) (fun i hi => (h4 i hi).touch hT1' id) g1 g2 g3 g4 (hT.trans hT1') (Nat.lt_of_lt_of_le g5 hT1'.size) (c := wr.heap.size + 1) (by simpa using hr1) (by have := h3.lt; omega) (fun i hi => by have := (h4 i hi).lt; omega)
        generalize (w1.setCell ⟨cf, k * 2, none⟩ (.int .i64 2)).setCell ⟨cf, k * 2 + 1, none⟩ (.slice (some ⟨wr.heap.size + 1, 0, none⟩) 8 8) = w9 at *
        go_wp2
        go_roundw
        case rel => exact ⟨k + 1, by omega, by go_num, hst⟩
        case measure => simp [intOf]; omega
    · have hkN : k = N := by omega
      subst hkN
      go_wp2
      go_ret
      exact ⟨rfl, hI.done n1 n2, by obtain ⟨cf, cs, C, h1, h2, h3, h4, g1, g2, g3, g4, hT, g5⟩ := hI; exact hT⟩
end Go.Proofs.Ytjfdjlinjghddaa

/-
  The document's registers (penumbraref01): Next, Plain.
-/
import Derived.Test.YtdhamejgdapdjaaDoorRegI
import Derived.Test.YtdhamejgdapdjaaDoorInsnY
namespace Go.Proofs.YtdhamejgdapdjaaDoor
open Go.ChangeShapes Go.WideShapes Go.ChangeAt Go.RowKit

set_option maxRecDepth 20000 in
set_option maxHeartbeats 1000000 in
theorem rnext_any {w : World} (s : RS) {a : Option Addr} {c : Nat} {l : List Ins} (h : IsL w a l) (hl : l.length ≤ 1000) :
    Calls Tryd.prog 25 #[stV s a l.length c] w fun e w' => e = .returned (nextV (nextP l s.pc)) ∧ Below w.heap.size w w' := by
  obtain ⟨o, ho⟩ : ∃ o, Hid (nextP l s.pc = o) := ⟨_, rfl⟩
  rw [ho.out]
  unfold nextP at ho
  obtain ⟨r, pc⟩ := s
  simp only at ho
  unfold stV
  by_cases h0 : pc < 0
  · rw [if_pos h0] at ho
    have ho' := ho.out
    subst ho'
    go_enter Tryd.func25, Tryd.ntmps25
    go_wp2_with fail
    refine bodyPost_ret (v := nextV none) (by simp [results, Tryd.results25, go_sem, nextV, insV]) rfl ⟨rfl, ?_⟩
    repeat (with_reducible refine Below.alloc ?_ (by simp; try omega) _)
    exact Below.refl _ _
  · by_cases h1 : pc < l.length
    · rw [if_neg h0] at ho
      obtain ⟨j, rfl⟩ : ∃ j : Nat, pc = j := ⟨pc.toNat, by omega⟩
      rw [Int.toNat_natCast] at ho
      obtain ⟨x, hx⟩ : ∃ x, l[j]? = some x := ⟨_, List.getElem?_eq_getElem (by omega)⟩
      rw [hx, Option.bind_some] at ho
      rcases h with rfl | ⟨g, rfl, h⟩
      · simp at h1; omega
      have hg := h.lt
      go_enter Tryd.func25, Tryd.ntmps25
      go_upto_region 1 with fail
      have hb : Below w.heap.size w ((w.alloc (.cells #[.int .u64 (r 0), .int .u64 (r 1), .int .u64 (r 2), .int .u64 (r 3), .int .u64 (r 4), .int .u64 (r 5), .int .u64 (r 6), .int .u64 (r 7), .slice (some ⟨g, 0, none⟩) l.length c, .int .i64 j] 57)).alloc (.cells #[.int .i64 0, .int .i64 0, .int .i64 0, .int .i64 0] 32)) := ((Below.refl _ w).alloc (Nat.le_refl _) _).alloc (by simp) _
      have hR := C4.new (w.alloc (.cells #[.int .u64 (r 0), .int .u64 (r 1), .int .u64 (r 2), .int .u64 (r 3), .int .u64 (r 4), .int .u64 (r 5), .int .u64 (r 6), .int .u64 (r 7), .slice (some ⟨g, 0, none⟩) l.length c, .int .i64 j] 57)) 0 0 0 0 32
      have hS : SCells ((w.alloc (.cells #[.int .u64 (r 0), .int .u64 (r 1), .int .u64 (r 2), .int .u64 (r 3), .int .u64 (r 4), .int .u64 (r 5), .int .u64 (r 6), .int .u64 (r 7), .slice (some ⟨g, 0, none⟩) l.length c, .int .i64 j] 57)).alloc (.cells #[.int .i64 0, .int .i64 0, .int .i64 0, .int .i64 0] 32)) w.heap.size r (.slice (some ⟨g, 0, none⟩) l.length c) (.int .i64 j) := SCells.of ((Below.heap_alloc _ _ _ (by simp)).trans (heap_alloc_new w _))
      rw [World.size_alloc] at hR
      generalize (w.alloc (.cells #[.int .u64 (r 0), .int .u64 (r 1), .int .u64 (r 2), .int .u64 (r 3), .int .u64 (r 4), .int .u64 (r 5), .int .u64 (r 6), .int .u64 (r 7), .slice (some ⟨g, 0, none⟩) l.length c, .int .i64 j] 57)).alloc (.cells #[.int .i64 0, .int .i64 0, .int .i64 0, .int .i64 0] 32) = W at *
      have hI := h.later hb
      obtain ⟨c0, c1, c2, c3⟩ := hI.four hx
      have s8 := hS.c8
      have s9 := hS.c9
      go_wp2_with fail
      refine (rcheck_any x _).mono ?_
      rintro e w1 ⟨rfl, b1⟩
      obtain ⟨r0, r1, r2, r3, rf⟩ := hR.later b1
      obtain ⟨d0, d1, d2, d3⟩ := (hI.later b1).four hx
      have B1 := past hb b1
      have t8 := (hS.later b1).c8
      have t9 := (hS.later b1).c9
      clear hR hb b1 c0 c1 c2 c3 hS hI s8 s9
      cases hk : okP x
      · rw [hk] at ho
        have ho' := ho.out
        subst ho'
        go_wp2_with fail
        refine bodyPost_ret (v := nextV none) (by simp [results, Tryd.results25, go_sem, nextV, insV, r0, r1, r2, r3]) rfl ⟨rfl, ?_⟩
        repeat (with_reducible refine Below.setCell ?_ (Nat.le_succ _) _)
        exact B1
      · rw [hk] at ho
        have ho' := ho.out
        subst ho'
        go_wp2_with fail
        refine bodyPost_ret (v := nextV (some x)) (by simp [results, Tryd.results25, go_sem, nextV, insV, r0, r1, r2, r3]) rfl ⟨rfl, ?_⟩
        repeat (with_reducible refine Below.setCell ?_ (Nat.le_succ _) _)
        exact B1
    · have hn : l[pc.toNat]? = none := List.getElem?_eq_none (by omega)
      rw [if_neg h0, hn] at ho
      have ho' := ho.out
      subst ho'
      go_enter Tryd.func25, Tryd.ntmps25
      go_wp2_with fail
      refine bodyPost_ret (v := nextV none) (by simp [results, Tryd.results25, go_sem, nextV, insV]) rfl ⟨rfl, ?_⟩
      repeat (with_reducible refine Below.alloc ?_ (by simp; try omega) _)
      exact Below.refl _ _
end Go.Proofs.YtdhamejgdapdjaaDoor

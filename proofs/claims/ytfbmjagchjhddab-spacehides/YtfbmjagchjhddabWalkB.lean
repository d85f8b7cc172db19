/-
  walk: has, follow.
-/
import Derived.Test.YtfbmjagchjhddabSpJ
namespace Go.Proofs.Ytfbmjagchjhddab
open Go.ChangeShapes Go.WideShapes Go.ChangeAt Go.RowKit

set_option maxHeartbeats 400000 in
theorem whas_any {w : World} {b c : Nat} {s : MS} (m : MemAt w b c s) (f : Int) :
    Calls Try.prog 33 #[.pointer (some ⟨b, 0, none⟩), .int .i64 f] w fun e w' => e = .returned (.bool (s.hasF f)) ∧ w = w' := by
  have hF := frames_any m
  by_cases h0 : 0 ≤ f
  · go_enter Try.func33, Try.ntmps33
    go_wp2_with (go_at_call 44; refine hF.mono ?_; rintro e wq ⟨rfl, rfl⟩)
    go_ret
    refine ⟨?_, rfl⟩
    have : decide (f < (s.n : Int)) = s.hasF f := by unfold MS.hasF; rw [decide_eq_true h0]; rfl
    rw [← this]; rfl
  · have e : s.hasF f = false := by unfold MS.hasF; rw [decide_eq_false h0]; rfl
    rw [e]
    go_enter Try.func33, Try.ntmps33
    go_wp2
    go_ret
    exact ⟨rfl, rfl⟩

/-- Where a walk ends at bits x (0: it goes on). -/
def folF (n : Nat) (x : Int) : Int := if unN x = 3 then 1 else if unN x = 0 ∧ unF x < n then 0 else 4
/-- What the entry says, if it goes on. -/
def folV (n : Nat) (x : Int) : Value := if folF n x = 0 then .agg #[.bool true, .bool (unB x 2), .bool (unB x 4), .bool (unB x 256), .int .i64 (unF x)] else .agg #[.bool false, .bool false, .bool false, .bool false, .int .i64 0]
theorem unF_nn {x : Int} : 0 ≤ unF x := by unfold unF; split <;> omega

set_option maxRecDepth 20000 in
set_option maxHeartbeats 1000000 in
theorem follow_any {w : World} {b c : Nat} {s : MS} (m : MemAt w b c s) (x : Int) (h1 : 0 ≤ x) (h2 : x < 18446744073709551616) :
    Calls Try.prog 35 #[.pointer (some ⟨b, 0, none⟩), .int .u64 x] w fun e w' => e = .returned (.tuple #[folV s.n x, .int .i64 (folF s.n x)]) ∧ Touch Nil w w' := by
  have hU := fun wx => unpack_any x wx h1 h2
  have t0 := (Touch.refl Nil w).alloc (.cells #[.bool false, .bool false, .bool false, .bool false, .int .i64 0] 36)
  have hr : (w.alloc (.cells #[.bool false, .bool false, .bool false, .bool false, .int .i64 0] 36)).heap[w.heap.size]? = some (.cells #[.bool false, .bool false, .bool false, .bool false, .int .i64 0] 36 (0, 0)) := heap_alloc_new w _
  go_enter Try.func35, Try.ntmps35
  go_upto_region 1 with fail
  generalize w.alloc (.cells #[.bool false, .bool false, .bool false, .bool false, .int .i64 0] 36) = W at *
  have hRl : w.heap.size < W.heap.size := lt_of_block' hr
  go_upto_region 2 with (go_at_call 48; refine (hU _).mono ?_; rintro e w1 ⟨rfl, rfl⟩)
  have ta := ((Touch.refl Nil W).alloc (.cells #[.bool (unP x), .bool (unB x 2), .bool (unB x 4), .bool (unB x 256), .int .i64 (unF x)] 36)).alloc (.cells #[.bool (unP x), .bool (unB x 2), .bool (unB x 4), .bool (unB x 256), .int .i64 (unF x)] 36)
  have he : ((W.alloc (.cells #[.bool (unP x), .bool (unB x 2), .bool (unB x 4), .bool (unB x 256), .int .i64 (unF x)] 36)).alloc (.cells #[.bool (unP x), .bool (unB x 2), .bool (unB x 4), .bool (unB x 256), .int .i64 (unF x)] 36)).heap[W.heap.size + 1]? = some (.cells #[.bool (unP x), .bool (unB x 2), .bool (unB x 4), .bool (unB x 256), .int .i64 (unF x)] 36 (0, 0)) := by
    have := heap_alloc_new (W.alloc (.cells #[.bool (unP x), .bool (unB x 2), .bool (unB x 4), .bool (unB x 256), .int .i64 (unF x)] 36)) (.cells #[.bool (unP x), .bool (unB x 2), .bool (unB x 4), .bool (unB x 256), .int .i64 (unF x)] 36)
    rw [World.size_alloc] at this
    exact this
  have hr2 := (ta.block w.heap.size hRl (fun h => h)).trans hr
  generalize (W.alloc (.cells #[.bool (unP x), .bool (unB x 2), .bool (unB x 4), .bool (unB x 256), .int .i64 (unF x)] 36)).alloc (.cells #[.bool (unP x), .bool (unB x 2), .bool (unB x 4), .bool (unB x 256), .int .i64 (unF x)] 36) = W2 at *
  generalize W.heap.size + 1 = E at *
  have T2 := t0.trans ta
  have m2 := m.touch T2 (fun h => h) (fun h => h)
  have tR : ∀ (v0 v1 v2 v3 v4 : Value), Touch Nil w (((((W2.setCell ⟨w.heap.size, 0, none⟩ v0).setCell ⟨w.heap.size, 1, none⟩ v1).setCell ⟨w.heap.size, 2, none⟩ v2).setCell ⟨w.heap.size, 3, none⟩ v3).setCell ⟨w.heap.size, 4, none⟩ v4) := fun v0 v1 v2 v3 v4 =>
    (((((T2.setNew (p := ⟨w.heap.size, 0, none⟩) (Nat.le_refl _) v0).setNew (p := ⟨w.heap.size, 1, none⟩) (Nat.le_refl _) v1).setNew (p := ⟨w.heap.size, 2, none⟩) (Nat.le_refl _) v2).setNew (p := ⟨w.heap.size, 3, none⟩) (Nat.le_refl _) v3).setNew (p := ⟨w.heap.size, 4, none⟩) (Nat.le_refl _) v4)
  have r0 : W2.cell? ⟨w.heap.size, 0, none⟩ = some (.bool false) := by simp [World.cell?, hr2]
  have r1 : W2.cell? ⟨w.heap.size, 1, none⟩ = some (.bool false) := by simp [World.cell?, hr2]
  have r2 : W2.cell? ⟨w.heap.size, 2, none⟩ = some (.bool false) := by simp [World.cell?, hr2]
  have r3 : W2.cell? ⟨w.heap.size, 3, none⟩ = some (.bool false) := by simp [World.cell?, hr2]
  have r4 : W2.cell? ⟨w.heap.size, 4, none⟩ = some (.int .i64 0) := by simp [World.cell?, hr2]
  have rf : ∀ i, W2.frozen? ⟨w.heap.size, i, none⟩ = false := fun i => by simp [World.frozen?, hr2]
  have e0 : W2.cell? ⟨E, 0, none⟩ = some (.bool (unP x)) := by simp [World.cell?, he]
  have e1 : W2.cell? ⟨E, 1, none⟩ = some (.bool (unB x 2)) := by simp [World.cell?, he]
  have e2 : W2.cell? ⟨E, 2, none⟩ = some (.bool (unB x 4)) := by simp [World.cell?, he]
  have e3 : W2.cell? ⟨E, 3, none⟩ = some (.bool (unB x 256)) := by simp [World.cell?, he]
  have e4 : W2.cell? ⟨E, 4, none⟩ = some (.int .i64 (unF x)) := by simp [World.cell?, he]
  by_cases n3 : unN x = 3
  · have f1 : Hid (folF s.n x = 1) := by show _ = _; unfold folF; rw [if_pos n3]
    have n3' : (unN x == 3) = true := by simp [n3]
    have v1 : Hid (folV s.n x = .agg #[.bool false, .bool false, .bool false, .bool false, .int .i64 0]) := by show _ = _; unfold folV; rw [if_neg (by rw [f1.out]; decide)]
    clear n3
    go_wp2_with fail
    exact bodyPost_ret (v := .tuple #[.agg #[.bool false, .bool false, .bool false, .bool false, .int .i64 0], .int .i64 1]) (by simp [results, Try.results35, go_sem, r0, r1, r2, r3, r4]) rfl ⟨by rw [v1.out, f1.out], tR _ _ _ _ _⟩
  · have n3' : (unN x == 3) = false := by simpa using n3
    by_cases n0 : unN x = 0
    · have n0' : (unN x != 0) = false := by simp [n0]
      have hp : unP x = true := by unfold unP; simp [n0]
      have hH := whas_any m2 (unF x)
      by_cases hf : unF x < s.n
      · have f1 : Hid (folF s.n x = 0) := by show _ = _; unfold folF; rw [if_neg n3, if_pos ⟨n0, hf⟩]
        have v1 : Hid (folV s.n x = .agg #[.bool true, .bool (unB x 2), .bool (unB x 4), .bool (unB x 256), .int .i64 (unF x)]) := by show _ = _; unfold folV; rw [if_pos f1.out]
        have hh : s.hasF (unF x) = true := (s.hasF_iff _).2 ⟨unF_nn, hf⟩
        rw [hh] at hH
        rw [hp] at e0
        clear n3 n0 hf hh
        go_wp2_with (go_at_call 33; refine hH.mono ?_; rintro e wq ⟨rfl, rfl⟩)
        exact bodyPost_ret (v := .tuple #[.agg #[.bool true, .bool (unB x 2), .bool (unB x 4), .bool (unB x 256), .int .i64 (unF x)], .int .i64 0]) (by simp [results, Try.results35, go_sem, r0, r1, r2, r3, r4]) rfl ⟨by rw [v1.out, f1.out], tR _ _ _ _ _⟩
      · have f1 : Hid (folF s.n x = 4) := by show _ = _; unfold folF; rw [if_neg n3, if_neg (fun h => hf h.2)]
        have v1 : Hid (folV s.n x = .agg #[.bool false, .bool false, .bool false, .bool false, .int .i64 0]) := by show _ = _; unfold folV; rw [if_neg (by rw [f1.out]; decide)]
        have hh : s.hasF (unF x) = false := (s.hasF_no _).2 (Or.inr (by omega))
        rw [hh] at hH
        clear n3 n0 hf hh
        go_wp2_with (go_at_call 33; refine hH.mono ?_; rintro e wq ⟨rfl, rfl⟩)
        exact bodyPost_ret (v := .tuple #[.agg #[.bool false, .bool false, .bool false, .bool false, .int .i64 0], .int .i64 4]) (by simp [results, Try.results35, go_sem, r0, r1, r2, r3, r4]) rfl ⟨by rw [v1.out, f1.out], tR _ _ _ _ _⟩
    · have n0' : (unN x != 0) = true := by simpa using n0
      have f1 : Hid (folF s.n x = 4) := by show _ = _; unfold folF; rw [if_neg n3, if_neg (fun h => n0 h.1)]
      have v1 : Hid (folV s.n x = .agg #[.bool false, .bool false, .bool false, .bool false, .int .i64 0]) := by show _ = _; unfold folV; rw [if_neg (by rw [f1.out]; decide)]
      clear n3 n0
      go_wp2_with fail
      exact bodyPost_ret (v := .tuple #[.agg #[.bool false, .bool false, .bool false, .bool false, .int .i64 0], .int .i64 4]) (by simp [results, Try.results35, go_sem, r0, r1, r2, r3, r4]) rfl ⟨by rw [v1.out, f1.out], tR _ _ _ _ _⟩
end Go.Proofs.Ytfbmjagchjhddab

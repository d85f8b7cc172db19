/-
  A space of a memory of its own (law 9's One); the document's example.
-/
import Derived.Test.YtaofkedcdeocjaaSpI
namespace Go.Proofs.Ytaofkedcdeocjaa
open Go.ChangeShapes Go.WideShapes Go.ChangeAt Go.RowKit

theorem many_of {n : Nat} (h : n ≤ 64) : MS.many (n : Int) = n := by unfold MS.many; omega
/-- A memory of n frames, booted. -/
def MS.up (n : Nat) (kpti : Bool) : MS := (MS.fresh n).boot kpti
theorem fresh_n (n : Nat) : (MS.fresh n).n = n := rfl

set_option maxRecDepth 20000 in
set_option maxHeartbeats 2000000 in
theorem one_any (n : Nat) (h24 : 24 ≤ n) (h64 : n ≤ 64) (P : Int) (hP : 1 ≤ P ∧ P ≤ 2) (kpti inv : Bool) (hl : (if kpti = true then 2 else 1) ≤ (MS.up n kpti).left) (w : World) :
    Calls Try.prog 30 #[cfV n P kpti inv] w fun e w' => ∃ q p b c, e = .returned (.tuple #[.pointer (some ⟨q, 0, none⟩), .pointer (some ⟨b, 0, none⟩), .bool true]) ∧ w.heap.size ≤ q ∧ w.heap.size ≤ p ∧ w.heap.size ≤ b ∧ w.heap.size ≤ c ∧ YAt w' q p b c (YS.new 0 kpti (fun _ => 0) (MS.up n kpti)) ∧ Touch Nil w w' := by
  unfold cfV
  go_enter Try.func30, Try.ntmps30
  go_upto_region 1 with fail
  have hg : (w.alloc (.cells #[.int .i64 n, .int .i64 P, .bool kpti, .bool inv] 25)).heap[w.heap.size]? = some (.cells #[.int .i64 n, .int .i64 P, .bool kpti, .bool inv] 25 (0, 0)) := heap_alloc_new w _
  have t0 := (Touch.refl Nil w).alloc (.cells #[.int .i64 n, .int .i64 P, .bool kpti, .bool inv] 25)
  have hs0 : w.heap.size < (w.alloc (.cells #[.int .i64 n, .int .i64 P, .bool kpti, .bool inv] 25)).heap.size := by simp
  generalize w.alloc (.cells #[.int .i64 n, .int .i64 P, .bool kpti, .bool inv] 25) = W at *
  have HG : ∀ (B : Nat) wx, w.heap.size < B → Touch (fun x => B ≤ x) W wx → wx.cell? ⟨w.heap.size, 0, none⟩ = some (.int .i64 n) ∧ wx.cell? ⟨w.heap.size, 1, none⟩ = some (.int .i64 P) ∧ wx.cell? ⟨w.heap.size, 2, none⟩ = some (.bool kpti) ∧ wx.cell? ⟨w.heap.size, 3, none⟩ = some (.bool inv) := fun B wx hB tx => by
    have := (tx.block w.heap.size hs0 (by omega)).trans hg
    simp [World.cell?, this]
  have hM := new_any (n : Int) W
  rw [many_of h64] at hM
  obtain ⟨a0, a1, a2, a3⟩ := HG (w.heap.size + 1) W (by omega) (Touch.refl _ W)
  go_wp2_with fail
  refine hM.mono ?_
  rintro e w1 ⟨rfl, m1, t1, hs1⟩
  clear hM a0 a1 a2 a3
  obtain ⟨c, hc⟩ : ∃ c, Hid (W.heap.size = c) := ⟨_, rfl⟩
  rw [hc.out] at m1 hs1 hs0
  rw [hc.out]
  have T1 : Touch (fun x => c ≤ x) W w1 := t1.mono (fun _ _ h => h.elim)
  have hB := boot_yes m1 P kpti inv (by rw [fresh_n]; exact h24) hP
  rw [fresh_n] at hB
  unfold cfV at hB
  obtain ⟨a0, a1, a2, a3⟩ := HG c w1 (by omega) T1
  go_upto_region 4 with fail
  go_upto_region 5 with (go_at_call 10; refine hB.mono ?_; rintro e w2 ⟨rfl, m2, t2⟩)
  clear a0 a1 a2 a3 hB
  have t2a := t2.alloc (.cells #[.int .i64 3, .int .i64 13] 29)
  have m2a := m2.touch ((Touch.refl Nil w2).alloc (.cells #[.int .i64 3, .int .i64 13] 29)) (fun h => h) (fun h => h)
  have hf : (w2.alloc (.cells #[.int .i64 3, .int .i64 13] 29)).heap[w2.heap.size]? = some (.cells #[.int .i64 3, .int .i64 13] 29 (0, 0)) := heap_alloc_new w2 _
  have hcF : c + 2 ≤ w2.heap.size := by have := t2.size; omega
  generalize w2.alloc (.cells #[.int .i64 3, .int .i64 13] 29) = W2 at *
  generalize w2.heap.size = Fx at *
  have T2 : Touch (fun x => c ≤ x) W W2 := T1.trans (t2a.mono (fun x _ e => by omega))
  go_upto_region 6 with (go_at_call 11; refine (pnew_any (c + 1)).mono ?_; rintro e w3 ⟨rfl, p3, t3, hs3⟩)
  have m3 := m2a.touch t3 (fun h => h) (fun h => h)
  have T3 : Touch (fun x => c ≤ x) W w3 := T2.trans (t3.mono (fun _ _ h => h.elim))
  have hf3 := (t3.block Fx (lt_of_block' hf) (fun h => h)).trans hf
  have hFl : Fx < W2.heap.size := lt_of_block' hf
  obtain ⟨p, hp⟩ : ∃ p, Hid (W2.heap.size = p) := ⟨_, rfl⟩
  rw [hp.out] at p3 hs3 hFl
  rw [hp.out]
  obtain ⟨a0, a1, a2, a3⟩ := HG c w3 (by omega) T3
  have f0 : w3.cell? ⟨Fx, 0, none⟩ = some (.int .i64 3) := by simp [World.cell?, hf3]
  have f1 : w3.cell? ⟨Fx, 1, none⟩ = some (.int .i64 13) := by simp [World.cell?, hf3]
  have hN := new_yes (s := (MS.fresh n).boot kpti) p3 m3 n P kpti inv 0 hl
  unfold cfV at hN
  go_upto_region 8 with fail
  go_wp2_with (go_at_call 13; refine hN.mono ?_; rintro e w4 ⟨q, rfl, hq, h4, t4⟩)
  refine bodyPost_ret (v := .tuple #[.pointer (some ⟨q, 0, none⟩), .pointer (some ⟨c + 1, 0, none⟩), .bool true]) (by simp [results, Try.results30, go_sem]) rfl ⟨q, p, c + 1, c, rfl, by omega, by omega, by omega, by omega, h4, ?_⟩
  have T4 : Touch (fun x => c ≤ x) W w4 := T3.trans (t4.mono (fun x _ e => by omega))
  exact t0.transNew T4 (fun i hi e => by omega)

theorem new_S (own : Int) (kpti : Bool) (R : Nat → Int) (s : MS) : (YS.new own kpti R s).S = ⟨own, s.least, if kpti = true then ((s.mark s.least 1 own).least : Int) else s.least, fun _ => 0, fun _ => 0⟩ := rfl
theorem new_need {own : Int} {kpti : Bool} {R : Nat → Int} {s : MS} (hk : s.least ≠ 0) {page : Int} (h0 : 0 ≤ page) (h1 : page < 256) : (YS.new own kpti R s).S.need [page] = 2 := by
  have hp : (YS.new own kpti R s).S.hasP page = true := (hasP_iff _ _).2 ⟨by rw [new_S]; show ((s.least : Nat) : Int) ≠ 0; omega, h0, h1⟩
  rw [need_is hp, new_S]; rfl

theorem up40_left : (MS.up 40 true).left = 25 := by decide +kernel
theorem up40_least : (MS.up 40 true).least = 15 := by decide +kernel

set_option maxRecDepth 20000 in
set_option maxHeartbeats 1000000 in
theorem wakes9 (w : World) : Calls Try.prog 19 #[] w fun e w' => e = .returned (.bool true) ∧ Touch Nil w w' := by
  have hO := one_any 40 (by omega) (by omega) 1 (by decide) true false (by rw [up40_left]; decide) w
  unfold cfV at hO
  go_enter Try.func19, Try.ntmps19
  go_upto_region 2 with (go_at_call 30; refine hO.mono ?_; rintro e w1 ⟨q, p, b, c, rfl, _, _, _, _, h1, t1⟩)
  have hN := need_one h1.sp 0
  rw [new_need (by rw [up40_least]; decide) (by decide) (by decide)] at hN
  go_wp2_with (go_at_call 25; refine hN.mono ?_; rintro e w2 ⟨rfl, t2⟩)
  go_ret
  exact ⟨rfl, t1.trans t2⟩
end Go.Proofs.Ytaofkedcdeocjaa

/-
  Package pcid: a new one, all CPUs, drop, the least free pair, a new generation, Of.
-/
import Derived.Test.YtpffilnebffijaaNamA
import Derived.Deep.RegionHeld3
import Derived.Deep.Upon
namespace Go.Proofs.Ytpffilnebffijaa
open Go.ChangeShapes Go.WideShapes Go.ChangeAt Go.RowKit

theorem nfresh_alloc (w : World) {a : Array Value} (c : Nat) (h : a = Array.ofFn (n := 14) (fun i => (NS.fresh c).cell i.1)) : NAt (w.alloc (.cells a 128)) w.heap.size (NS.fresh c) := by
  have := World.rowIs_alloc w (Array.ofFn (n := 14) (fun i => (NS.fresh c).cell i.1)) 128 (NS.fresh c).cell (fun i hi => by
    have hi' : i < 14 := by simpa using hi
    rw [Array.getElem?_ofFn]; simp [hi'])
  rw [Array.size_ofFn] at this
  rw [h]; exact this
theorem fresh_cells (c : Nat) (x : Int) (hx : x = c) : #[.int .i64 x, .int .i64 0, .int .i64 0, .int .i64 0, .int .i64 0, .bool false, .bool false, .bool false, .bool false, .bool false, .bool false, .bool false, .bool false, .int .i64 0] = Array.ofFn (n := 14) (fun i => (NS.fresh c).cell i.1) := by
  subst hx; rfl
set_option maxHeartbeats 400000 in
theorem nnew_any (c : Int) (w : World) :
    Calls Try.prog 28 #[.int .i64 c] w fun e w' => e = .returned (.pointer (some ⟨w.heap.size, 0, none⟩)) ∧ NAt w' w.heap.size (NS.fresh (NS.cpus c)) ∧ Touch Nil w w' ∧ w'.heap.size = w.heap.size + 1 := by
  have e : Hid (min (max c 1) 2 = ((NS.cpus c : Nat) : Int)) := by show _ = _; unfold NS.cpus; omega
  go_enter Try.func28, Try.ntmps28
  go_wp2_with fail
  all_goals go_ret
  · exact ⟨rfl, nfresh_alloc w _ (fresh_cells _ _ (by have := e.out; omega)), (Touch.refl Nil w).alloc _, by simp⟩
  · exact ⟨rfl, nfresh_alloc w _ (fresh_cells _ _ (by have := e.out; omega)), (Touch.refl Nil w).alloc _, by simp⟩
  · exact ⟨rfl, nfresh_alloc w _ (fresh_cells _ _ (by have := e.out; omega)), (Touch.refl Nil w).alloc _, by simp⟩

set_option maxHeartbeats 400000 in
theorem index4 {w : World} {b o : Nat} {f : Nat → Nat} (hc : ∀ i, i < 4 → w.cell? ⟨b, o + i, none⟩ = some (.int .i64 (f i))) (x : Int) :
    Calls Try.prog 106 #[.slice (some ⟨b, o, none⟩) 4 4, .int .i64 x] w fun e w' => (∃ r : Int, e = .returned (.int .i64 r) ∧ (0 ≤ r ↔ ∃ i, i < 4 ∧ x = f i)) ∧ w = w' := by
  go_enter Try.func106, Try.ntmps106
  go_wp2_with fail
  go_loopg [8] 4 (fun g i wr => ∃ k : Nat, g + k = 4 ∧ i = .int .i64 k ∧ Hid (∀ j, j < k → x ≠ f j) ∧ w = wr)
  case atStart => exact ⟨0, by omega, rfl, fun j hj => by omega, rfl⟩
  case round =>
    obtain ⟨k, hgk, rfl, hno, rfl⟩ := hrel
    by_cases hk : k < 4
    · have k1 : (k : Int) < 4 := by omega
      have cc := hc k hk
      obtain ⟨y, hy⟩ : ∃ y : Int, Hid ((f k : Int) = y) := ⟨_, rfl⟩
      rw [hy.out] at cc
      clear hc
      cases e : (x == y)
      · have hn2 : Hid (∀ j, j < k + 1 → x ≠ f j) := fun j hj => by
          by_cases e2 : j = k
          · subst e2; rw [hy.out]; simpa using e
          · exact hno.out j (by omega)
        go_wp2_with fail
        go_roundg (3 - k)
        case measure => omega
        case rel => exact ⟨k + 1, by omega, by go_num, hn2, rfl⟩
      · have hm : Hid (∃ i, i < 4 ∧ x = f i) := ⟨k, hk, by rw [hy.out]; simpa using e⟩
        go_wp2_with fail
        go_ret
        exact ⟨⟨k, rfl, fun _ => hm.out, fun _ => by omega⟩, rfl⟩
    · have h4 : k = 4 := by omega
      subst h4
      go_wp2_with fail
      go_ret
      exact ⟨⟨-1, rfl, fun h => by omega, fun ⟨i, hi, e⟩ => absurd e (hno.out i hi)⟩, rfl⟩
theorem had_iff (n : NS) (k : Nat) : n.had k = true ↔ ∃ i, i < 4 ∧ (k : Int) = n.P i := by
  constructor
  · intro h
    simp only [NS.had, Bool.or_eq_true, beq_iff_eq] at h
    rcases h with ((h | h) | h) | h
    · exact ⟨0, by omega, by omega⟩
    · exact ⟨1, by omega, by omega⟩
    · exact ⟨2, by omega, by omega⟩
    · exact ⟨3, by omega, by omega⟩
  · rintro ⟨i, hi, e⟩
    simp only [NS.had, Bool.or_eq_true, beq_iff_eq]
    have e : n.P i = k := by omega
    match i, hi, e with
    | 0, _, e => exact Or.inl (Or.inl (Or.inl e))
    | 1, _, e => exact Or.inl (Or.inl (Or.inr e))
    | 2, _, e => exact Or.inl (Or.inr e)
    | 3, _, e => exact Or.inr e
set_option maxHeartbeats 400000 in
theorem contains4 {w : World} {b : Nat} {n : NS} (h : NAt w b n) (k : Nat) :
    Calls Try.prog 100 #[.slice (some ⟨b, 1, none⟩) 4 4, .int .i64 k] w fun e w' => e = .returned (.bool (n.had k)) ∧ w = w' := by
  have hI := index4 (o := 1) (f := n.P) (fun i hi => h.pC i hi) (k : Int)
  go_enter Try.func100, Try.ntmps100
  go_wp2_with fail
  with_reducible refine hI.mono ?_
  rintro e wq ⟨⟨r, rfl, hr'⟩, rfl⟩
  have hr : Hid _ := hr'
  clear hr'
  go_wp2_with fail
  go_ret
  exact ⟨ret_bool (by rw [Bool.eq_iff_iff, had_iff]; simpa using hr.out), rfl⟩
theorem free_spec (n : NS) : (n.free = 0 ∧ n.had 1 = true ∧ n.had 2 = true ∧ n.had 3 = true) ∨ (1 ≤ n.free ∧ n.free ≤ 3 ∧ n.had n.free = false ∧ ∀ k, 1 ≤ k → k < n.free → n.had k = true) := by
  unfold NS.free
  cases h1 : n.had 1
  · right; simp [h1]; omega
  · cases h2 : n.had 2
    · right; simp [h2]; intro k k0 k1
      rw [show k = 1 by omega]; exact h1
    · cases h3 : n.had 3
      · right; simp [h3]; intro k k0 k1
        rcases (show k = 1 ∨ k = 2 by omega) with e | e <;> rw [e]
        · exact h1
        · exact h2
      · left; simp
set_option maxHeartbeats 400000 in
theorem nfree_any {w : World} {b : Nat} {n : NS} (h : NAt w b n) :
    Calls Try.prog 80 #[.pointer (some ⟨b, 0, none⟩)] w fun e w' => e = .returned (.int .i64 n.free) ∧ w = w' := by
  have hS : Hid _ := free_spec n
  go_enter Try.func80, Try.ntmps80
  go_wp2_with fail
  go_loopg [3] 3 (fun g i wr => ∃ k : Nat, g + k = 3 ∧ i = .int .i64 ((k : Int) + 1) ∧ Hid (∀ j, 1 ≤ j → j ≤ k → n.had j = true) ∧ w = wr)
  case atStart => exact ⟨0, by omega, rfl, fun j hj => by omega, rfl⟩
  case round =>
    obtain ⟨k, hgk, rfl, hno, rfl⟩ := hrel
    by_cases hk : k < 3
    · have k1 : (k : Int) + 1 ≤ 3 := by omega
      have hC := contains4 h (k + 1)
      rw [show ((k + 1 : Nat) : Int) = (k : Int) + 1 by omega] at hC
      cases e : n.had (k + 1)
      · rw [e] at hC
        have hf : Hid (n.free = k + 1) := by
          show _ = _
          rcases hS.out with ⟨_, a1, a2, a3⟩ | ⟨a1, a2, a3, a4⟩
          · have : k = 0 ∨ k = 1 ∨ k = 2 := by omega
            rcases this with q | q | q <;> subst q <;> simp_all
          · by_cases q : n.free < k + 1
            · have := hno.out n.free a1 (by omega); rw [a3] at this; cases this
            · by_cases q2 : k + 1 < n.free
              · have := a4 (k + 1) (by omega) q2; rw [e] at this; cases this
              · omega
        go_wp2_with fail
        with_reducible refine hC.mono ?_
        rintro e wq ⟨rfl, rfl⟩
        go_wp2_with fail
        go_ret
        exact ⟨ret_int (by rw [hf.out]; omega), rfl⟩
      · rw [e] at hC
        have hn2 : Hid (∀ j, 1 ≤ j → j ≤ k + 1 → n.had j = true) := fun j j0 j1 => by
          by_cases e2 : j = k + 1
          · subst e2; exact e
          · exact hno.out j j0 (by omega)
        go_wp2_with fail
        with_reducible refine hC.mono ?_
        rintro e wq ⟨rfl, rfl⟩
        go_wp2_with fail
        go_roundg (2 - k)
        case measure => omega
        case rel => exact ⟨k + 1, by omega, by go_num, hn2, rfl⟩
    · have h3 : k = 3 := by omega
      subst h3
      have hf : Hid (n.free = 0) := by
        show _ = _
        rcases hS.out with ⟨a, _⟩ | ⟨a1, a2, a3, a4⟩
        · exact a
        · have := hno.out n.free a1 a2; rw [a3] at this; cases this
      go_wp2_with fail
      go_ret
      exact ⟨ret_int (by rw [hf.out]; rfl), rfl⟩
set_option maxHeartbeats 400000 in
theorem nall_any {w : World} {b : Nat} {n : NS} (h : NAt w b n) (ok : n.OK) (k : Int) :
    Calls Try.prog 31 #[.pointer (some ⟨b, 0, none⟩), .int .i64 k] w fun e w' => e = .returned (.tuple #[]) ∧ NAt w' b (n.all k) ∧ Touch (· = b) w w' := by
  have cc := h.cC
  have c2 := ok.c2
  go_enter Try.func31, Try.ntmps31
  go_wp2_with fail
  go_loopg [9] n.c (fun g i wr => ∃ m : Nat, g + m = n.c ∧ i = .int .i64 m ∧ NAt wr b (n.mustTo k m) ∧ Touch (· = b) w wr)
  case atStart => exact ⟨0, by omega, rfl, h, Touch.refl _ _⟩
  case round =>
    clear h cc
    obtain ⟨m, hgm, rfl, h, t⟩ := hrel
    by_cases hm : m < n.c
    · have m1 : (m : Int) < n.c := by omega
      go_wp2_with fail
      with_reducible refine (nmust_any h (ok.mustTo k m) (m : Int) k).mono ?_
      rintro e w1 ⟨rfl, h1, t1⟩
      have t2 := t.trans t1
      go_wp2_with fail
      go_roundg (n.c - (m + 1))
      case measure => omega
      case rel => exact ⟨m + 1, by omega, by go_num, h1, t2⟩
    · have hm : m = n.c := by omega
      subst hm
      go_wp2_with fail
      go_end0
      exact ⟨rfl, h, t⟩
set_option maxHeartbeats 400000 in
theorem ndrop_any {w : World} {b : Nat} {n : NS} (h : NAt w b n) (ok : n.OK) (p : Int) :
    Calls Try.prog 35 #[.pointer (some ⟨b, 0, none⟩), .int .i64 p] w fun e w' => e = .returned (.tuple #[]) ∧ NAt w' b (n.drop p) ∧ Touch (· = b) w w' := by
  have hP := npair_any h p
  by_cases h0 : n.pair p = 0
  · have e1 : n.drop p = n := by unfold NS.drop; rw [if_pos h0]
    rw [h0] at hP
    rw [e1]
    go_enter Try.func35, Try.ntmps35
    go_wp2_with fail
    with_reducible refine hP.mono ?_
    rintro e wq ⟨rfl, rfl⟩
    go_wp2_with fail
    refine bodyPost_ret (results_none rfl _ _ _) rfl ?_
    exact ⟨rfl, h, Touch.refl _ _⟩
  · have e1 : n.drop p = (n.put p.toNat 0).all (n.pair p) := by unfold NS.drop; rw [if_neg h0]
    have hp : NS.isP p = true := by
      cases e : NS.isP p
      · exact absurd (by unfold NS.pair; rw [e]; rfl) h0
      · rfl
    obtain ⟨p0, p1⟩ := (NS.isP_iff p).1 hp
    have hN := h.setP p.toNat 0 (by omega)
    have tN := (Touch.refl (· = b) w).setCell (p := ⟨b, 1 + p.toNat, none⟩) rfl (.int .i64 0)
    have fz := h.frozen (1 + p.toNat)
    have cc := h.pC p.toNat (by omega)
    have okN := ok.put p.toNat 0 (by omega)
    have hne : ((n.pair p : Int) == 0) = false := by simp; omega
    rw [e1]
    generalize n.pair p = K at *
    have hA := nall_any hN okN (K : Int)
    rw [show ((0 : Nat) : Int) = 0 from rfl] at hA
    clear hN e1 h0 hp
    go_enter Try.func35, Try.ntmps35
    go_wp2_with fail
    with_reducible refine hP.mono ?_
    rintro e wq ⟨rfl, rfl⟩
    go_wp2_with fail
    with_reducible refine hA.mono ?_
    rintro e w1 ⟨rfl, h1, t1⟩
    have t2 := tN.trans t1
    go_wp2_with fail
    go_end0
    exact ⟨rfl, h1, t2⟩
end Go.Proofs.Ytpffilnebffijaa

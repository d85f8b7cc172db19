/-
  Package area: the calls at known pages; the chapter's example.
-/
import Derived.Test.YtcjfdgkhlidakaaAreaF
namespace Go.Proofs.Ytcjfdgkhlidakaa
open Go.ChangeShapes Go.WideShapes Go.ChangeAt Go.RowKit

theorem list_k {w : World} {b : Nat} {R : Nat → Int} (h : AAt w b R) {L : List Rn} (e : runsK R 256 = L) {n : Nat} (hn : L.length = n) :
    Calls Try.prog 30 #[.pointer (some ⟨b, 0, none⟩)] w fun e w' => ∃ a cap, e = .returned (.slice a n cap) ∧ RunsL w' a L ∧ Touch Nil w w' ∧ n ≤ cap ∧ cap ≤ 9223372036854775807 := by
  have e' : runsA R (pgsA R 256) = L := e
  refine (list_any h).mono ?_
  rintro e w' ⟨⟨v, rfl, hv⟩, t⟩
  rw [e', hn] at hv
  obtain ⟨a, cap, rfl, _⟩ := owns_form hv
  obtain ⟨h1, h2⟩ := owns_len hv
  exact ⟨a, cap, rfl, owns_runs hv hn, t, h1, h2⟩
theorem owns_len1 {w : World} {base n cap : Nat} {e : TypeId} {a : Option Addr} {xs : List Value} (h : w.ownsRow base e 1 (.slice a n cap) n xs) : n ≤ cap ∧ cap ≤ maxLen := by
  rcases h.2 with ⟨h1, h0⟩ | ⟨g, cap', cur, h1, _, _, h2, h3, _⟩
  · cases h1; exact ⟨Nat.le_refl _, Nat.zero_le _⟩
  · cases h1; exact ⟨h2, h3⟩
theorem pages_k {w : World} {b : Nat} {R : Nat → Int} (h : AAt w b R) {n : Nat} (hn : (pgsA R 256).length = n) :
    Calls Try.prog 27 #[.pointer (some ⟨b, 0, none⟩)] w fun e w' => ∃ a cap, e = .returned (.slice a n cap) ∧ IntsL w' a (pgsA R 256) ∧ Touch Nil w w' ∧ n ≤ cap ∧ cap ≤ 9223372036854775807 := by
  refine (pages_any h).mono ?_
  rintro e w' ⟨⟨v, rfl, hv⟩, t⟩
  rw [hn] at hv
  obtain ⟨a, cap, rfl, _⟩ := owns_form hv
  obtain ⟨h1, h2⟩ := owns_len1 hv
  exact ⟨a, cap, rfl, owns_ints hv hn, t, h1, h2⟩
theorem addA_ok {R : Nat → Int} {f n r : Int} {F M : Nat} (hf : f = F) (hn : n = M) (h1 : 1 ≤ M) (h2 : F + M ≤ 256) (hr : r = 0 ∨ r = 1 ∨ r = 3) (h : ∀ k, k < M → R (F + k) < 0) : addA R f n r = (0, setA R F M r) := by
  subst hf hn
  have e1 : rowP F M = true := (rowP_iff _ _).2 (by omega)
  have e2 : riP r = true := (riP_iff r).2 hr
  unfold addA
  rw [e1, e2]
  simp only [Int.toNat_natCast, (cntA_zero R F M).2 h]
  rfl
theorem addA_there {R : Nat → Int} {f n r : Int} {F M : Nat} (hf : f = F) (hn : n = M) (h1 : 1 ≤ M) (h2 : F + M ≤ 256) (hr : r = 0 ∨ r = 1 ∨ r = 3) (k : Nat) (hk : k < M) (h : 0 ≤ R (F + k)) : addA R f n r = (4, R) := by
  subst hf hn
  have e1 : rowP F M = true := (rowP_iff _ _).2 (by omega)
  have e2 : riP r = true := (riP_iff r).2 hr
  have e3 : ¬ cntA R F M = 0 := fun e => by have := (cntA_zero R F M).1 e k hk; omega
  unfold addA
  rw [e1, e2]
  simp only [Int.toNat_natCast, if_neg e3]
  rfl
theorem cutA_ok {R : Nat → Int} {f n : Int} {F M : Nat} (hf : f = F) (hn : n = M) (h1 : 1 ≤ M) (h2 : F + M ≤ 256) (h : ∀ k, k < M → 0 ≤ R (F + k)) : cutA R f n = (0, setA R F M (-1)) := by
  subst hf hn
  have e1 : rowP F M = true := (rowP_iff _ _).2 (by omega)
  unfold cutA
  rw [e1]
  simp only [Int.toNat_natCast, (cntA_all R F M).2 h]
  rfl
theorem cutA_none {R : Nat → Int} {f n : Int} {F M : Nat} (hf : f = F) (hn : n = M) (h1 : 1 ≤ M) (h2 : F + M ≤ 256) (k : Nat) (hk : k < M) (h : R (F + k) < 0) : cutA R f n = (3, R) := by
  subst hf hn
  have e1 : rowP F M = true := (rowP_iff _ _).2 (by omega)
  have e3 : ¬ cntA R F M = M := fun e => by have := (cntA_all R F M).1 e k hk; omega
  unfold cutA
  rw [e1]
  simp only [Int.toNat_natCast, if_neg e3]
  rfl
theorem chgA_ok {R : Nat → Int} {f n r : Int} {F M : Nat} (hf : f = F) (hn : n = M) (h1 : 1 ≤ M) (h2 : F + M ≤ 256) (hr : r = 0 ∨ r = 1 ∨ r = 3) (h : ∀ k, k < M → 0 ≤ R (F + k)) : chgA R f n r = (0, setA R F M r) := by
  subst hf hn
  have e1 : rowP F M = true := (rowP_iff _ _).2 (by omega)
  have e2 : riP r = true := (riP_iff r).2 hr
  unfold chgA
  rw [e1, e2]
  simp only [Int.toNat_natCast, (cntA_all R F M).2 h]
  rfl
theorem chgA_none {R : Nat → Int} {f n r : Int} {F M : Nat} (hf : f = F) (hn : n = M) (h1 : 1 ≤ M) (h2 : F + M ≤ 256) (hr : r = 0 ∨ r = 1 ∨ r = 3) (k : Nat) (hk : k < M) (h : R (F + k) < 0) : chgA R f n r = (3, R) := by
  subst hf hn
  have e1 : rowP F M = true := (rowP_iff _ _).2 (by omega)
  have e2 : riP r = true := (riP_iff r).2 hr
  have e3 : ¬ cntA R F M = M := fun e => by have := (cntA_all R F M).1 e k hk; omega
  unfold chgA
  rw [e1, e2]
  simp only [Int.toNat_natCast, if_neg e3]
  rfl
theorem rtsA_yes {R : Nat → Int} {p : Int} {P : Nat} (hp : p = P) (h : P < 256) : rtsA R p = (rt R P, decide (0 ≤ R P)) := by
  subst hp
  unfold rtsA
  rw [(rowP_iff _ _).2 (by omega : (0 : Int) ≤ P ∧ (1 : Int) ≤ 1 ∧ (1 : Int) ≤ 256 - P)]
  simp only [Int.toNat_natCast, if_true]
theorem add_k {w : World} {b : Nat} {R : Nat → Int} (h : AAt w b R) (f n r : Int) {c : Int} {R' : Nat → Int} (e : addA R f n r = (c, R')) (hf : f ≤ 9223372036854775807) :
    Calls Try.prog 7 #[.pointer (some ⟨b, 0, none⟩), .int .i64 f, .int .i64 n, .int .i64 r] w fun e w' => e = .returned (.int .i64 c) ∧ AAt w' b R' ∧ Touch (· = b) w w' := by
  have := add_any h f n r hf
  rw [e] at this
  exact this
theorem cut_k {w : World} {b : Nat} {R : Nat → Int} (h : AAt w b R) (f n : Int) {c : Int} {R' : Nat → Int} (e : cutA R f n = (c, R')) (hf : f ≤ 9223372036854775807) :
    Calls Try.prog 9 #[.pointer (some ⟨b, 0, none⟩), .int .i64 f, .int .i64 n] w fun e w' => e = .returned (.int .i64 c) ∧ AAt w' b R' ∧ Touch (· = b) w w' := by
  have := cut_any h f n hf
  rw [e] at this
  exact this
theorem chg_k {w : World} {b : Nat} {R : Nat → Int} (h : AAt w b R) (f n r : Int) {c : Int} {R' : Nat → Int} (e : chgA R f n r = (c, R')) (hf : f ≤ 9223372036854775807) :
    Calls Try.prog 11 #[.pointer (some ⟨b, 0, none⟩), .int .i64 f, .int .i64 n, .int .i64 r] w fun e w' => e = .returned (.int .i64 c) ∧ AAt w' b R' ∧ Touch (· = b) w w' := by
  have := chg_any h f n r hf
  rw [e] at this
  exact this
theorem rts_k {w : World} {b : Nat} {R : Nat → Int} (h : AAt w b R) (p : Int) {c : Int} {t : Bool} (e : rtsA R p = (c, t)) (hp : p ≤ 9223372036854775807) :
    Calls Try.prog 15 #[.pointer (some ⟨b, 0, none⟩), .int .i64 p] w fun e w' => e = .returned (.tuple #[.int .i64 c, .bool t]) ∧ Touch Nil w w' := by
  have := rights_any h p hp
  rw [e] at this
  exact this
theorem runsK_noA : runsK noA 256 = [] := by
  have := runsK_skip noA 0 256 (fun i _ => by show (-1 : Int) < 0; omega)
  rw [Nat.zero_add] at this
  rw [this]; rfl
/-- One row of pages. -/
theorem runsK_one (f n : Nat) (r : Int) (hn : 1 ≤ n) (hr : 0 ≤ r) (hfn : f + n ≤ 256) : runsK (setA noA f n r) 256 = [⟨f, n, r⟩] := by
  have e1 := runsK_skip (setA noA f n r) 0 f (fun i hi => by unfold setA; rw [if_neg (by omega)]; show (-1 : Int) < 0; omega)
  rw [Nat.zero_add, runsK_zero] at e1
  have e2 := runsK_seg (setA noA f n r) f n r hn hr (fun i hi => by unfold setA; rw [if_pos (by omega)]) (by rw [e1]; intro x hx; cases hx)
  have e3 := runsK_skip (setA noA f n r) (f + n) (256 - (f + n)) (fun i hi => by unfold setA; rw [if_neg (by omega)]; show (-1 : Int) < 0; omega)
  rw [show f + n + (256 - (f + n)) = 256 by omega] at e3
  rw [e3, e2, e1]; rfl
set_option maxRecDepth 20000 in
set_option maxHeartbeats 1000000 in
theorem wakes12 (w : World) : Calls Try.prog 17 #[] w fun e w' => e = .returned (.bool true) ∧ Touch Nil w w' := by
  have hN := anew_any w
  go_enter Try.func17, Try.ntmps17
  go_wp2_with fail
  with_reducible refine hN.mono ?_
  rintro e w1 ⟨rfl, h1, t1, s1⟩
  have hL := list_k h1 runsK_noA (n := 0) rfl
  generalize hB : w.heap.size = B at *
  go_wp2_with fail
  with_reducible refine hL.mono ?_
  rintro e w2 ⟨a, cap, rfl, _, t2, _, _⟩
  have h2 := h1.touch t2 (by simp [Nil])
  have hA := add_k h2 3 2 1 (addA_ok (F := 3) (M := 2) rfl rfl (by omega) (by omega) (by omega) (fun k _ => by show (-1 : Int) < 0; omega)) (by omega)
  go_wp2_with fail
  with_reducible refine hA.mono ?_
  rintro e w3 ⟨rfl, h3, t3⟩
  have hL3 := list_k h3 (runsK_one 3 2 1 (by omega) (by omega) (by omega)) (n := 1) rfl
  go_wp2_with fail
  with_reducible refine hL3.mono ?_
  rintro e w4 ⟨a, cap, rfl, _, t4, _, _⟩
  go_wp2_with fail
  go_ret
  exact ⟨rfl, ((t1.trans t2).transNew t3 (fun i hi e => by omega)).transNew t4 (fun i hi e => e.elim)⟩
end Go.Proofs.Ytcjfdgkhlidakaa

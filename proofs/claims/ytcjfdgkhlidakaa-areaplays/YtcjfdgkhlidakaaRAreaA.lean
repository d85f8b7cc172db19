/-
  The document's areas: a new one, Add, Cut, Change, Rights.
-/
import Derived.Test.YtcjfdgkhlidakaaAreaC
namespace Go.Proofs.Ytcjfdgkhlidakaa
open Go.ChangeShapes Go.WideShapes Go.ChangeAt Go.RowKit

def zerosR : Array Value := Array.ofFn (n := 256) (fun _ => Value.int .i64 0)
theorem fresh_R (w : World) {a : Array Value} (h : a = zerosR) : RAt (w.alloc (.cells a 43)) w.heap.size (fun _ => 0) := by
  have := World.rowIs_alloc w zerosR 43 (fun _ => Value.int .i64 0) (fun i hi => by
    have hi' : i < 256 := by simpa [zerosR] using hi
    unfold zerosR
    rw [Array.getElem?_ofFn]; simp [hi'])
  rw [show zerosR.size = 256 by unfold zerosR; rw [Array.size_ofFn]] at this
  rw [h]; exact this
theorem RAt.put {w : World} {b : Nat} {R : Nat → Int} {f k : Nat} {r : Int} (h : RAt w b (setA R f k r)) : RAt (w.setCell ⟨b, f + k, none⟩ (.int .i64 r)) b (setA R f (k + 1) r) :=
  World.rowIs.congr (World.rowIs.set h (f + k) _) fun i hi => by
    by_cases e : i = f + k
    · rw [if_pos e, e]; unfold setA; rw [if_pos (by omega)]
    · rw [if_neg e]; unfold setA
      by_cases q : f ≤ i ∧ i < f + k
      · rw [if_pos q, if_pos (by omega)]
      · rw [if_neg q, if_neg (by omega)]
set_option maxRecDepth 20000 in
set_option maxHeartbeats 1000000 in
theorem rnew_any (w : World) :
    Calls Try.prog 5 #[] w fun e w' => e = .returned (.pointer (some ⟨w.heap.size, 0, none⟩)) ∧ RAt w' w.heap.size noA ∧ Touch Nil w w' := by
  go_enter Try.func5, Try.ntmps5
  go_wp2_with fail
  refine Eq.mpr (congrArg (Oper.upon _ _ _ _ _) (a₂ := Result.ok (Next.value (.agg zerosR)) w) (by kernel_rfl)) ?_
  have h0 := fresh_R w (a := zerosR) rfl
  have t0 := (Touch.refl Nil w).alloc (.cells zerosR 43)
  go_wp2_with fail
  generalize w.alloc (.cells zerosR 43) = w1 at *
  generalize hB : w.heap.size = B at *
  go_loopg [2, 5] 256 (fun g u i wr => ∃ k : Nat, g + k = 256 ∧ i = .int .i64 k ∧ Aside (RAt wr B (setA (fun _ => 0) 0 k (-1))) ∧ Aside (Touch Nil w wr))
  case atStart => exact ⟨0, by omega, rfl, (show RAt _ _ _ from by rw [setA_zero]; exact h0), t0⟩
  case round =>
    clear h0 t0
    obtain ⟨k, hgk, rfl, hA, tk⟩ := hrel
    by_cases hk : k < 256
    · have k1 : (k : Int) < 256 := by omega
      have c0 := hA.out.cel (k := k) hk
      have z0 := World.rowIs.frozen hA.out k
      have hN : Aside (RAt (wr.setCell ⟨B, k, none⟩ (.int .i64 (-1))) B (setA (fun _ => 0) 0 (k + 1) (-1))) := by
        have := hA.out.put; rwa [Nat.zero_add] at this
      go_wp2_with fail
      go_roundg (256 - (k + 1))
      case measure => omega
      case rel => exact ⟨k + 1, by omega, by go_num, hN, tk.out.setNew (p := ⟨B, k, none⟩) (by show _ ≤ B; omega) _⟩
    · have e : k = 256 := by omega
      subst e
      go_wp2_with fail
      go_ret
      rw [hB]
      exact ⟨rfl, RAt.eq hA.out (fun k hk => by unfold setA noA; rw [if_pos (by omega)]), tk.out⟩
set_option maxHeartbeats 400000 in
theorem span_any (f n : Int) (w : World) :
    Calls Try.prog 22 #[.int .i64 f, .int .i64 n] w fun e w' => e = .returned (.bool (rowP f n)) ∧ w = w' := by
  have e : rowP f n = (decide (0 ≤ f) && (decide (f < 256) && (decide (1 ≤ n) && decide (n ≤ 256 - f)))) := by
    rw [Bool.eq_iff_iff, rowP_iff]; simp; omega
  rw [e]
  clear e
  go_enter Try.func22, Try.ntmps22
  cases h1 : decide (0 ≤ f) with
  | false =>
    go_wp2_with fail
    go_ret
    exact ⟨by simp, rfl⟩
  | true =>
    cases h2 : decide (f < 256) with
    | false =>
      go_wp2_with fail
      go_ret
      exact ⟨by simp, rfl⟩
    | true =>
      cases h3 : decide (1 ≤ n) with
      | false =>
        go_wp2_with fail
        go_ret
        exact ⟨by simp, rfl⟩
      | true =>
        have h1' : 0 ≤ f := by simpa using h1
        have h2' : f < 256 := by simpa using h2
        have hw : IntKind.i64.wrap (256 - f) = 256 - f := by rw [IntKind.wrap_i64]; omega
        go_wp2_with fail
        go_ret
        exact ⟨by simp, rfl⟩
set_option maxHeartbeats 400000 in
theorem rFine_any (r : Int) (w : World) :
    Calls Try.prog 23 #[.int .i64 r] w fun e w' => e = .returned (.bool (riP r)) ∧ w = w' := by
  unfold riP
  go_enter Try.func23, Try.ntmps23
  cases h1 : (r == 0) with
  | true =>
    go_wp2_with fail
    go_ret
    exact ⟨by simp, rfl⟩
  | false =>
    cases h2 : (r == 1) with
    | true =>
      go_wp2_with fail
      go_ret
      exact ⟨by simp, rfl⟩
    | false =>
      cases h3 : (r == 3) <;>
      · go_wp2_with fail
        go_ret
        exact ⟨by simp, rfl⟩
def allA (R : Nat → Int) (F M : Nat) (th : Bool) : Bool := decide (∀ k, k < M → decide (0 ≤ R (F + k)) = th)
theorem allA_no (R : Nat → Int) (F M : Nat) : allA R F M false = decide (cntA R F M = 0) := by
  unfold allA
  rw [Bool.eq_iff_iff, decide_eq_true_iff, decide_eq_true_iff, cntA_zero]
  constructor
  · intro h k hk; have := h k hk; simp at this; omega
  · intro h k hk; have := h k hk; simp; omega
theorem allA_yes (R : Nat → Int) (F M : Nat) : allA R F M true = decide (cntA R F M = M) := by
  unfold allA
  rw [Bool.eq_iff_iff, decide_eq_true_iff, decide_eq_true_iff, cntA_all]
  constructor
  · intro h k hk; have := h k hk; simpa using this
  · intro h k hk; have := h k hk; simpa using this
set_option maxHeartbeats 1000000 in
theorem all_any {w : World} {b : Nat} {R : Nat → Int} (h : RAt w b R) (F M : Nat) (hFM : F + M ≤ 256) (th : Bool) :
    Calls Try.prog 24 #[.pointer (some ⟨b, 0, none⟩), .int .i64 F, .int .i64 M, .bool th] w fun e w' => e = .returned (.bool (allA R F M th)) ∧ Touch Nil w w' := by
  have q1 : IntKind.i64.wrap ((F : Int) + M) = (F : Int) + M := by rw [IntKind.wrap_i64]; omega
  go_enter Try.func24, Try.ntmps24
  go_wp2_with fail
  go_loopg [9] M (fun g i wr => ∃ k : Nat, g + k = M ∧ i = .int .i64 ((F + k : Nat) : Int) ∧ Aside (∀ j, j < k → decide (0 ≤ R (F + j)) = th) ∧ Aside (Touch Nil w wr))
  case atStart => exact ⟨0, by omega, rfl, fun j hj => by omega, Touch.refl _ w⟩
  case round =>
    obtain ⟨k, hgk, rfl, hno, tk⟩ := hrel
    have c0 := fun hk : k < M => (h.touch tk.out (by simp [Nil])).cel (k := F + k) (by omega)
    obtain ⟨i, hi⟩ : ∃ i, F + k = i := ⟨_, rfl⟩
    rw [hi] at c0 ⊢
    by_cases hk : k < M
    · have k1 : decide ((i : Int) < (F : Int) + M) = true := by simp; omega
      have k2 : (i : Int) < 256 := by omega
      have c1 := c0 hk
      have q2 : IntKind.i64.wrap ((i : Int) + 1) = (i : Int) + 1 := by rw [IntKind.wrap_i64]; omega
      obtain ⟨x, hx⟩ : ∃ x, Hid (R i = x) := ⟨_, rfl⟩
      rw [hx.out] at c1
      clear c0
      cases e : (decide (0 ≤ x) == th)
      · have e' : (decide (0 ≤ x) != th) = true := by simp [bne, e]
        have hF : Hid (allA R F M th = false) := by
          show allA R F M th = false
          unfold allA
          rw [decide_eq_false_iff_not]
          intro q
          have := q k hk
          rw [hi, hx.out] at this
          rw [this] at e; simp at e
        clear e
        cases hd : decide (0 ≤ x) <;> rw [hd] at e' <;> cases th <;> simp at e'
        all_goals
          go_wp2_with fail
          go_ret
          exact ⟨by rw [hF.out]; rfl, tk.out⟩
      · have e' : decide (0 ≤ x) = th := by simpa using e
        have hno2 : Aside (∀ j, j < k + 1 → decide (0 ≤ R (F + j)) = th) := fun j hj => by
          by_cases q : j = k
          · subst q; rw [hi, hx.out]; exact e'
          · exact hno.out j (by omega)
        clear e
        cases hd : decide (0 ≤ x) <;> rw [hd] at e' <;> subst e'
        all_goals
          go_wp2_with fail
          go_roundg (M - (k + 1))
          case measure => omega
          case rel => exact ⟨k + 1, by omega, by rw [show ((F + (k + 1) : Nat) : Int) = (i : Int) + 1 by omega], hno2, tk.out⟩
    · have k1 : decide ((i : Int) < (F : Int) + M) = false := by simp; omega
      have hT : Hid (allA R F M th = true) := by
        show allA R F M th = true
        unfold allA
        rw [decide_eq_true_iff]
        exact fun j hj => hno.out j (by omega)
      clear c0
      go_wp2_with fail
      go_ret
      exact ⟨by rw [hT.out]; rfl, tk.out⟩
set_option maxHeartbeats 1000000 in
theorem setR_any {w : World} {b : Nat} {R : Nat → Int} (h : RAt w b R) (F M : Nat) (hFM : F + M ≤ 256) (r : Int) :
    Calls Try.prog 25 #[.pointer (some ⟨b, 0, none⟩), .int .i64 F, .int .i64 M, .int .i64 r] w fun e w' => e = .returned (.tuple #[]) ∧ RAt w' b (setA R F M r) ∧ Touch (· = b) w w' := by
  have q1 : IntKind.i64.wrap ((F : Int) + M) = (F : Int) + M := by rw [IntKind.wrap_i64]; omega
  go_enter Try.func25, Try.ntmps25
  go_wp2_with fail
  go_loopg [8] M (fun g i wr => ∃ k : Nat, g + k = M ∧ i = .int .i64 ((F + k : Nat) : Int) ∧ Aside (RAt wr b (setA R F k r)) ∧ Aside (Touch (· = b) w wr))
  case atStart => exact ⟨0, by omega, rfl, (show RAt _ _ _ from by rw [setA_zero]; exact h), Touch.refl _ w⟩
  case round =>
    obtain ⟨k, hgk, rfl, hA, tk⟩ := hrel
    have c0 := fun hk : k < M => hA.out.cel (k := F + k) (by omega)
    have z0 := World.rowIs.frozen hA.out (F + k)
    have hN : Aside (RAt (wr.setCell ⟨b, F + k, none⟩ (.int .i64 r)) b (setA R F (k + 1) r)) := hA.out.put
    obtain ⟨i, hi⟩ : ∃ i, F + k = i := ⟨_, rfl⟩
    rw [hi] at c0 z0 hN ⊢
    by_cases hk : k < M
    · have k1 : decide ((i : Int) < (F : Int) + M) = true := by simp; omega
      have k2 : (i : Int) < 256 := by omega
      have c1 := c0 hk
      have q2 : IntKind.i64.wrap ((i : Int) + 1) = (i : Int) + 1 := by rw [IntKind.wrap_i64]; omega
      clear c0 hA h
      go_wp2_with fail
      go_roundg (M - (k + 1))
      case measure => omega
      case rel => exact ⟨k + 1, by omega, by rw [show ((F + (k + 1) : Nat) : Int) = (i : Int) + 1 by omega], hN, tk.out.setCell (p := ⟨b, i, none⟩) rfl _⟩
    · have k1 : decide ((i : Int) < (F : Int) + M) = false := by simp; omega
      have e : k = M := by omega
      subst e
      clear c0 hN z0
      go_wp2_with fail
      go_end0
      exact ⟨rfl, hA.out, tk.out⟩
end Go.Proofs.Ytcjfdgkhlidakaa

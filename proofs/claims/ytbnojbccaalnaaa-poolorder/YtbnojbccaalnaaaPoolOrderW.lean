/-
  The walk of PoolOrder.
-/
import Derived.Test.YtbnojbccaalnaaaPoolC
import Derived.Deep.DeepCutAuto
import Derived.Deep.QuietTactic
import Derived.BigQuiet
import Derived.Laws.AppendOwn
namespace Go.Proofs.Ytbnojbccaalnaaa
open Go.ChangeShapes Go.WideShapes Go.ChangeAt Go.RowKit

/-- A row of the call's own behind what turns elder blocks alone. -/
theorem ownsRow_touch {w w' : World} {base size : Nat} {e : TypeId} {v : Value} {n : Nat} {xs : List Value} {S : Nat → Prop} (h : w.ownsRow base e size v n xs) (t : Touch S w w') (hs : ∀ k, S k → k < base) : w'.ownsRow base e size v n xs := by
  obtain ⟨hl, hv⟩ := h
  refine ⟨hl, hv.imp id ?_⟩
  rintro ⟨g, cap, cur, h1, h2, h3, h4⟩
  have hlt : g < w.heap.size := by
    by_cases q : g < w.heap.size
    · exact q
    · rw [Array.getElem?_eq_none (by omega)] at h3; cases h3
  exact ⟨g, cap, cur, h1, h2, (t.block g hlt (fun q => by have := hs g q; omega)).trans h3, h4⟩
theorem Touch.ofGrown' {w w' : World} {o : Option Nat} (h : w.grownBy w' o) : Touch (fun k => o = some k) w w' :=
  ⟨h.os, h.tape, h.output, h.size, fun k hk hs => h.block k hk (fun e => hs e.symm)⟩

/-- Frames from 15 to F are had, but M, which is marked. -/
def poS (M F : Nat) : MS := ⟨24, fun _ => 0, fun i => if i = M then 4 else if 15 ≤ i ∧ i < F then 1 else 0, fun i => if i = M then -1 else if 15 ≤ i ∧ i < F then 2 else -1⟩
def poR (M F : Nat) : Nat → Int := fun i => if i = M then 0 else if 15 ≤ i ∧ i < F then 1 else 0
theorem poS_start (M : Nat) (h1 : 15 ≤ M) (h2 : M < 24) : (MS.fresh 24).mark M 4 (-1) = poS M 15 := by
  have hm : (MS.fresh 24).mayM M 4 = true := MS.mayM_mk _ _ _ ((MS.hasF_iff _ _).2 ⟨by omega, by show (M : Int) < 24; omega⟩) (by omega) (by omega)
  unfold MS.mark; rw [hm]
  simp only [if_true, Int.toNat_natCast, poS, MS.fresh, MS.mk.injEq, true_and]
  refine ⟨funext fun i => ?_, funext fun i => ?_⟩
  · by_cases e : i = M
    · simp [e]
    · rw [if_neg e, if_neg e, if_neg (by omega)]
  · by_cases e : i = M
    · simp [e]
    · rw [if_neg e, if_neg e, if_neg (by omega)]
theorem poS_step (M F : Nat) (h1 : 15 ≤ F) (h2 : F < 24) (hne : F ≠ M) : (poS M F).mark F 1 2 = poS M (F + 1) := by
  have hm : (poS M F).mayM F 1 = true := MS.mayM_mk _ _ _ ((MS.hasF_iff _ _).2 ⟨by omega, by show (F : Int) < 24; omega⟩) (by omega) (by omega)
  unfold MS.mark; rw [hm]
  simp only [if_true, Int.toNat_natCast, poS, MS.mk.injEq, true_and]
  refine ⟨funext fun i => ?_, funext fun i => ?_⟩
  · by_cases e : i = F
    · subst e; rw [if_pos rfl, if_neg hne, if_pos (by omega)]
    · rw [if_neg e]
      by_cases e2 : i = M
      · rw [if_pos e2, if_pos e2]
      · rw [if_neg e2, if_neg e2]
        by_cases e3 : 15 ≤ i ∧ i < F
        · rw [if_pos e3, if_pos (by omega)]
        · rw [if_neg e3, if_neg (by omega)]
  · by_cases e : i = F
    · subst e; rw [if_pos rfl, if_neg hne, if_pos (by omega)]
    · rw [if_neg e]
      by_cases e2 : i = M
      · rw [if_pos e2, if_pos e2]
      · rw [if_neg e2, if_neg e2]
        by_cases e3 : 15 ≤ i ∧ i < F
        · rw [if_pos e3, if_pos (by omega)]
        · rw [if_neg e3, if_neg (by omega)]
theorem poS_skip (M : Nat) : poS M M = poS M (M + 1) := by
  simp only [poS, MS.mk.injEq, true_and]
  refine ⟨funext fun i => ?_, funext fun i => ?_⟩
  all_goals
    by_cases e2 : i = M
    · rw [if_pos e2, if_pos e2]
    · rw [if_neg e2, if_neg e2]
      by_cases e3 : 15 ≤ i ∧ i < M
      · rw [if_pos e3, if_pos (by omega)]
      · rw [if_neg e3, if_neg (by omega)]
theorem poR_start (M : Nat) : (fun _ => 0 : Nat → Int) = poR M 15 := by
  funext i; unfold poR; rw [if_neg (show ¬ (15 ≤ i ∧ i < 15) by omega)]; simp
theorem poR_step (M F : Nat) (h1 : 15 ≤ F) (hne : F ≠ M) : rset (poR M F) F 1 = poR M (F + 1) := by
  funext i; unfold rset poR
  simp only [Int.toNat_natCast]
  by_cases e : i = F
  · subst e; rw [if_pos rfl, if_neg hne, if_pos (by omega)]
  · rw [if_neg e]
    by_cases e2 : i = M
    · rw [if_pos e2, if_pos e2]
    · rw [if_neg e2, if_neg e2]
      by_cases e3 : 15 ≤ i ∧ i < F
      · rw [if_pos e3, if_pos (by omega)]
      · rw [if_neg e3, if_neg (by omega)]
theorem poR_skip (M : Nat) : poR M M = poR M (M + 1) := by
  funext i; unfold poR
  by_cases e2 : i = M
  · rw [if_pos e2, if_pos e2]
  · rw [if_neg e2, if_neg e2]
    by_cases e3 : 15 ≤ i ∧ i < M
    · rw [if_pos e3, if_pos (by omega)]
    · rw [if_neg e3, if_neg (by omega)]
theorem poS_least (M F : Nat) (h1 : 15 ≤ F) (h2 : F < 24) (hne : F ≠ M) : Least (poS M F) F := by
  refine ⟨h1, h2, ?_, fun g g1 g2 => ?_⟩
  · show (if F = M then _ else _) = (0 : Int)
    rw [if_neg hne, if_neg (by omega)]
  · show (if g = M then (4 : Int) else _) ≠ 0
    split
    · omega
    · rw [if_pos ⟨g1, g2⟩]; omega
theorem poS_none (M : Nat) : NoneFree (poS M 24) := by
  intro g g1 g2
  have g2' : g < 24 := g2
  show (if g = M then (4 : Int) else _) ≠ 0
  split
  · omega
  · rw [if_pos ⟨g1, g2'⟩]; omega
theorem poS_left : ∀ M : Fin 9, (poS (15 + M.val) 15).left = 8 := by decide
theorem poS_left24 : ∀ M : Fin 9, (poS (15 + M.val) 24).left = 0 := by decide

/-- What was taken, in its order. -/
def poL (M : Nat) : Nat → List Nat
  | 0 => []
  | j + 1 => poL M j ++ if 15 + j = M then [] else [15 + j]
theorem poL_len (M : Nat) (h : 15 ≤ M) : ∀ j, (poL M j).length + (if M < 15 + j then 1 else 0) = j := by
  intro j
  induction j with
  | zero => simp [poL]; omega
  | succ j ih =>
    unfold poL
    rw [List.length_append]
    by_cases e : 15 + j = M
    · rw [if_pos e, if_pos (by omega)]; rw [if_neg (by omega)] at ih; simp; omega
    · rw [if_neg e]
      by_cases e2 : M < 15 + j
      · rw [if_pos (by omega)]; rw [if_pos e2] at ih; simp; omega
      · rw [if_neg (by omega)]; rw [if_neg e2] at ih; simp; omega
theorem poL_get' : ∀ (M : Fin 9) (i : Fin 8), (poL (15 + M.val) 9)[i.val]? = some (if 15 + i.val < 15 + M.val then 15 + i.val else 16 + i.val) := by decide
theorem poL_get (M i : Nat) (h1 : 15 ≤ M) (h2 : M < 24) (hi : i < 8) : ∃ a, (poL M 9)[i]? = some a ∧ 15 ≤ a ∧ a < 24 ∧ a ≠ M := by
  have := poL_get' ⟨M - 15, by omega⟩ ⟨i, hi⟩
  simp only [show 15 + (M - 15) = M by omega] at this
  refine ⟨_, this, ?_⟩
  split <;> omega

/-- Frames of which S holds were given back; M is none's. -/
structure Went (s : MS) (R : Nat → Int) (M : Nat) (S : Nat → Prop) : Prop where
  n : s.n = 24
  cl : ∀ i, 15 ≤ i → i < 24 → (s.C i = 0 ↔ S i)
  r0 : ∀ i, S i → R i = 0
  r1 : ∀ i, 15 ≤ i → i < 24 → ¬ S i → i ≠ M → R i = 1
  rM : R M = 0
theorem Went.start (M : Nat) : Went (poS M 24) (poR M 24) M (fun _ => False) := by
  refine ⟨rfl, fun i h1 h2 => ?_, fun i h => h.elim, fun i h1 h2 _ hne => ?_, ?_⟩
  · show (if i = M then (4 : Int) else _) = 0 ↔ _
    split
    · simp
    · rw [if_pos ⟨h1, h2⟩]; simp
  · unfold poR; rw [if_neg hne, if_pos ⟨h1, h2⟩]
  · unfold poR; rw [if_pos rfl]
theorem Went.give {s : MS} {R : Nat → Int} {M : Nat} {S : Nat → Prop} (h : Went s R M S) (A : Nat) (h1 : 15 ≤ A) (h2 : A < 24) (hM : A ≠ M) : Went (s.given R A) (rgive R A) M (fun i => S i ∨ i = A) := by
  have hra : rf R (A : Int) = R A := by unfold rf; rw [if_pos (by omega)]; rfl
  by_cases hS : S A
  · have h0 := h.r0 A hS
    have e1 : rgive R A = R := if_neg (by omega)
    have e2 : s.given R A = s := if_neg (by omega)
    rw [e1, e2]
    refine ⟨h.n, fun i g1 g2 => ?_, fun i hi => ?_, fun i g1 g2 g3 g4 => h.r1 i g1 g2 (fun q => g3 (Or.inl q)) g4, h.rM⟩
    · rw [h.cl i g1 g2]
      exact ⟨Or.inl, fun q => q.elim id (fun e => e ▸ hS)⟩
    · exact hi.elim (h.r0 i) (fun e => e ▸ h0)
  · have h0 := h.r1 A h1 h2 hS hM
    have e1 : rgive R A = rset R A 0 := by unfold rgive; rw [if_pos (by omega), hra, h0]; rfl
    have e2 : s.given R A = (s.zero A).mark A 0 (-1) := if_pos (by omega)
    have hF : s.hasF (A : Int) = true := (s.hasF_iff _).2 (by have := h.n; omega)
    have hm : (s.zero A).mayM A 0 = true := (s.zero A).mayM_mk _ _ (by rw [MS.hasF_of_n (s.zero_n A)]; exact hF) (by omega) (by omega)
    rw [e1, e2]
    refine ⟨by rw [MS.mark_n, MS.zero_n]; exact h.n, fun i g1 g2 => ?_, fun i hi => ?_, fun i g1 g2 g3 g4 => ?_, ?_⟩
    · unfold MS.mark; rw [hm]; simp only [if_true, Int.toNat_natCast]
      by_cases e : i = A
      · rw [if_pos e]; exact ⟨fun _ => Or.inr e, fun _ => rfl⟩
      · rw [if_neg e, MS.zero_C, h.cl i g1 g2]
        exact ⟨Or.inl, fun q => q.elim id (fun q => absurd q e)⟩
    · unfold rset; simp only [Int.toNat_natCast]
      by_cases e : i = A
      · rw [if_pos e]
      · rw [if_neg e]; exact hi.elim (h.r0 i) (fun q => absurd q e)
    · unfold rset; simp only [Int.toNat_natCast]
      rw [if_neg (fun e => g3 (Or.inr e))]; exact h.r1 i g1 g2 (fun q => g3 (Or.inl q)) g4
    · unfold rset; simp only [Int.toNat_natCast]
      rw [if_neg (fun e => hM e.symm)]; exact h.rM
theorem Went.ub {s : MS} {R : Nat → Int} {M : Nat} {S : Nat → Prop} (h : Went s R M S) (A : Nat) (h1 : 15 ≤ A) (h2 : A < 24) (hM : A ≠ M) : rf R (A : Int) ≤ 1 := by
  have hra : rf R (A : Int) = R A := by unfold rf; rw [if_pos (by omega)]; rfl
  rw [hra]
  by_cases hS : S A
  · rw [h.r0 A hS]; omega
  · rw [h.r1 A h1 h2 hS hM]; omega
theorem Went.least {s : MS} {R : Nat → Int} {M A B : Nat} (h : Went s R M (fun i => (False ∨ i = A) ∨ i = B)) (a1 : 15 ≤ A) (a2 : A < 24) (b1 : 15 ≤ B) (b2 : B < 24) : Least s (min A B) := by
  refine ⟨by omega, by rw [h.n]; omega, (h.cl _ (by omega) (by omega)).2 ?_, fun g g1 g2 hg => ?_⟩
  · by_cases e : A ≤ B
    · exact Or.inl (Or.inr (by omega))
    · exact Or.inr (by omega)
  · have := (h.cl g g1 (by omega)).1 hg
    rcases this with (q | q) | q
    · exact q
    · omega
    · omega

theorem MemAt.drews {w : World} {b c : Nat} {s : MS} (h : MemAt w b c s) (n : Nat) : MemAt (w.drewN n) b c s := ⟨h.ne, h.le, h.top, h.row⟩
theorem Touch.drews {S : Nat → Prop} {w w' : World} (h : Touch S w w') (n : Nat) : Touch S w (w'.drewN n) := ⟨h.os, h.tape, h.output, h.size, h.block⟩
theorem tdiv_two (a : Int) (n : Int) (h : 1 ≤ n) : a.tdiv n = a / n ∨ a.tdiv n = a / n + 1 := by
  have e := Int.tdiv_eq_ediv (a := a) (b := n)
  split at e
  · left; omega
  · right; rw [e, Int.sign_eq_one_of_pos (by omega)]
theorem within_q' (v n : Int) (w : World) (h1 : 1 ≤ n) (h2 : n ≤ 1099511627776) :
    Calls Try.prog 9 #[.int .i64 v, .int .i64 n] w fun e w' => e = .returned (.int .i64 (v % n)) ∧ w' = w :=
  (within_any v n w h1 h2).mono fun _ _ ⟨he, hw⟩ => ⟨he, hw.symm⟩

set_option maxRecDepth 10000 in
set_option maxHeartbeats 4000000 in
theorem poolOrder_walk (a0 a1 : Int) (w : World) (wf1 : (Lit.int .i64 a1).wf = true) :
    Calls Try.prog 3 #[.int .i64 a0, .int .i64 a1] w fun e w' => e = .returned (.bool true) ∧ Below w.heap.size w w' := by
  have q0 := Int.emod_nonneg a0 (b := 9) (by omega)
  have q1 := Int.emod_lt_of_pos a0 (b := 9) (by omega)
  obtain ⟨M, hMa⟩ : ∃ M : Nat, 15 + a0 % 9 = M := ⟨(15 + a0 % 9).toNat, by omega⟩
  have hb1 := bounds_i64 wf1
  have v1 : IntKind.i64.wrap (a1.tdiv 8) = a1.tdiv 8 := by
    have := tdiv_two a1 8 (by omega)
    rw [IntKind.wrap_i64]; omega
  clear wf1
  have hM1 : 15 ≤ M := by omega
  have hM2 : M < 24 := by omega
  clear q0 q1
  have l1 : (poS M 15).left = 8 := by have := poS_left ⟨M - 15, by omega⟩; simpa only [show 15 + (M - 15) = M by omega] using this
  have l2 : (poS M 24).left = 0 := by have := poS_left24 ⟨M - 15, by omega⟩; simpa only [show 15 + (M - 15) = M by omega] using this
  have hs1 : Hid ((MS.fresh (MS.many 24)).mark M 4 (-1) = poS M 15) := poS_start M hM1 hM2
  have hR0 : Hid ((fun _ => 0 : Nat → Int) = poR M 15) := poR_start M
  go_enter Try.func3, Try.ntmps3
  go_wp2_with (first
    | (go_at_call 9; refine (within_any _ _ _ (by omega) (by omega)).mono ?_; rintro e wq ⟨rfl, rfl⟩)
    | (go_at_call 8; refine (new_any _ _).mono ?_; rintro e w1 ⟨rfl, hM, hT, hS⟩)
    | (go_at_call 10; refine (mark_any hM _ _ _).mono ?_; rintro e w2 ⟨hx, hMm, hT2⟩; subst hx; rw [hs1.out] at hMm)
    | (go_at_call 11; refine (pnew_any _).mono ?_; rintro e w3 ⟨hx, hP, hT3, hS3⟩; rw [hR0.out] at hP; have hsz := hT2.size; rw [hS] at hsz; generalize w2.heap.size = P at hx hP hS3 hsz; subst hx; have hMp := hMm.touch hT3 id id)
    | (go_at_call 12; refine (pleft_any hP hMp).mono ?_; rintro e wq ⟨rfl, rfl⟩))
  have hT4 : Touch Nil w w3 := (hT.transNew hT2 (fun i h e => by omega)).transNew hT3 (fun _ _ e => e)
  have hown := World.ownsRow_nil w3 (P + 1) 3 1
  have hbase : P + 1 ≤ w3.heap.size := by omega
  clear hM hT hMm hT2 hT3 hS3 hS hs1 hR0 l1
  obtain ⟨i0, hi, hz0, hz1, hz2⟩ : ∃ i, Try.prog.info? 3 = some i ∧ i.zero = some (.int .i64 0) ∧ i.size = 1 ∧ i.bytes = 8 := ⟨_, rfl, rfl, rfl, rfl⟩
  go_loopw [7, 8] (fun l i wr => ∃ j : Nat, j ≤ 9 ∧ i = .int .i64 (15 + (j : Int)) ∧ wr.ownsRow (P + 1) 3 1 l (poL M j).length ((poL M j).map (fun x : Nat => Value.int .i64 (x : Int))) ∧ PoolAt wr P (w.heap.size + 1) (poR M (15 + j)) ∧ MemAt wr (w.heap.size + 1) w.heap.size (poS M (15 + j)) ∧ Touch Nil w wr ∧ P + 1 ≤ wr.heap.size) (fun _ i _ => 24 - (intOf i).toNat)
  case atStart => exact ⟨0, by omega, rfl, hown, hP, hMp, hT4, hbase⟩
  case round =>
    clear hown hP hMp hT4 hbase
    obtain ⟨j, hj, rfl, hown, hP, hMp, hT, hbase⟩ := hrel
    by_cases hlt : j < 9
    · have j1 : 15 + (j : Int) < 24 := by omega
      by_cases hjM : 15 + j = M
      · have e1 : (15 + (j : Int) == (M : Int)) = true := by simp; omega
        go_wp2
        go_roundw
        case rel =>
          refine ⟨j + 1, by omega, by go_num, ?_, ?_, ?_, hT, hbase⟩
          · have : poL M (j + 1) = poL M j := by show _ ++ _ = _; rw [if_pos hjM, List.append_nil]
            rw [this]; exact hown
          · rw [hjM, poR_skip] at hP; rw [show 15 + (j + 1) = M + 1 by omega]; exact hP
          · rw [hjM, poS_skip] at hMp; rw [show 15 + (j + 1) = M + 1 by omega]; exact hMp
        case measure => simp [intOf]; omega
      · have e1 : (15 + (j : Int) == (M : Int)) = false := by simp; omega
        have hL := poS_least M (15 + j) (by omega) (by omega) hjM
        have hs2 : Hid ((poS M (15 + j)).mark (15 + (j : Int)) 1 2 = poS M (15 + (j + 1))) := poS_step M (15 + j) (by omega) (by omega) hjM
        have hr2 : Hid (rset (poR M (15 + j)) (15 + (j : Int)) 1 = poR M (15 + (j + 1))) := poR_step M (15 + j) (by omega) hjM
        have c1 : (poS M (15 + (j + 1))).cls (15 + (j : Int)) = 1 := by
          rw [← hs2.out, MS.cls_mark _ _ _ _ _ (MS.mayM_mk _ _ _ ((MS.hasF_iff _ _).2 ⟨by omega, by show _ < (24 : Int); omega⟩) (by omega) (by omega)), if_pos rfl]
        have c2 : (poS M (15 + (j + 1))).own (15 + (j : Int)) = 2 := by
          rw [← hs2.out, MS.own_mark _ _ _ _ _ (MS.mayM_mk _ _ _ ((MS.hasF_iff _ _).2 ⟨by omega, by show _ < (24 : Int); omega⟩) (by omega) (by omega)), if_pos rfl]
        have hlen := poL_len M hM1 j
        go_wp2_with (first
          | (go_at_call 13; refine (ptake_at hP hMp _ _ (Or.inl rfl) hL (15 + (j : Int)) rfl).mono ?_; rintro e w5 ⟨hx, hP5, hM5, hT5⟩; subst hx; rw [hs2.out] at hM5; rw [hr2.out] at hP5; have hown5 := ownsRow_touch hown hT5 (fun k e => by omega))
          | (go_at_call 14; refine (class_any hM5 _).mono ?_; rintro e wq ⟨rfl, rfl⟩)
          | (go_at_call 15; refine (owner_any hM5 _).mono ?_; rintro e wq ⟨rfl, rfl⟩)
          | (at_builtin; refine wpList_append_own _ rfl _ _ 29 rfl (P + 1) 3 i0 (.int .i64 0) 1 8 Try.underlying29 hi hz0 hz1 hz2 rfl (by decide) _ _ _ rfl (hown5.alloc _) ⟨w5.heap.size, 0, none⟩ 1 1 [.int .i64 (15 + (j : Int))] rfl rfl ?c1 ?c2 ?c3 ?c4 ?c5 ?_)
          | go_in)
        case c1 =>
          intro j u hj
          match j, hj with
          | 0, hj => simp at hj; subst hj; simp [Addr.add]
        case c2 => intro u hu; simp at hu; subst hu; rfl
        case c3 => unfold maxLen; omega
        case c4 => omega
        case c5 => have := hT5.size; simp; omega
        · intro v' w6 hown6 hgrow _
          have t6 : Touch (fun k => P + 1 ≤ k) w5 w6 := ((Touch.refl _ _).alloc _).trans ((Touch.ofGrown' hgrow).mono fun k _ e => (hown5.lt k e).1)
          have hl6 : (poL M (j + 1)).length = (poL M j).length + 1 := by show List.length (_ ++ _) = _; rw [if_neg hjM, List.length_append]; rfl
          have hm6 : (poL M (j + 1)).map (fun x : Nat => Value.int .i64 (x : Int)) = (poL M j).map (fun x : Nat => Value.int .i64 (x : Int)) ++ [.int .i64 (15 + (j : Int))] := by
            show List.map _ (_ ++ _) = _; rw [if_neg hjM, List.map_append]; rfl
          go_wp2
          go_roundw
          case rel => exact ⟨j + 1, by omega, by go_num, by rw [hl6, hm6]; exact hown6, hP5.touch t6 (by omega), hM5.touch t6 (by omega) (by omega), (hT.transNew hT5 (fun i h e => by omega)).transNew t6 (fun i h e => by omega), Nat.le_trans (Nat.le_trans hbase hT5.size) t6.size⟩
          case measure => simp [intOf]; omega
    · have hj9 : j = 9 := by omega
      subst hj9
      obtain ⟨j1, hj1⟩ : ∃ j1 : Nat, a1 % 8 = j1 := ⟨(a1 % 8).toNat, by omega⟩
      obtain ⟨j2, hj2⟩ : ∃ j2 : Nat, a1.tdiv 8 % 8 = j2 := ⟨(a1.tdiv 8 % 8).toNat, by omega⟩
      have hj1' : j1 < 8 := by omega
      have hj2' : j2 < 8 := by omega
      obtain ⟨A, hA, a15, a24, aM⟩ := poL_get M j1 hM1 hM2 hj1'
      obtain ⟨B, hB, b15, b24, bM⟩ := poL_get M j2 hM1 hM2 hj2'
      have hlen : (poL M 9).length = 8 := by have := poL_len M hM1 9; rw [if_pos (by omega)] at this; omega
      rw [hlen] at hown
      obtain ⟨hxl, ⟨_, h8⟩ | ⟨g, cap, cur, rfl, hg1, hg2, hg3, hg4, hg5, hg6⟩⟩ := hown
      · omega
      have hcell : ∀ (i a : Nat), i < 8 → (poL M 9)[i]? = some a → wr.cell? ⟨g, i, none⟩ = some (.int .i64 (a : Int)) := by
        intro i a hi ha
        have h1 : (cur.toList.take (8 * 1))[i]? = some (.int .i64 (a : Int)) := by rw [hg6, List.getElem?_map, ha]; rfl
        rw [List.getElem?_take_of_lt (by omega), Array.getElem?_toList] at h1
        unfold World.cell?
        simp [hg2, h1]
      have cA := hcell j1 A hj1' hA
      have cB := hcell j2 B hj2' hB
      have hW := Went.start M
      have hW1 := hW.give A a15 a24 aM
      have hW2 := hW1.give B b15 b24 bM
      have hLe := hW2.least a15 a24 b15 b24
      have u1 := hW.ub A a15 a24 aM
      have u2 := hW1.ub B b15 b24 bM
      have hmin : min (A : Int) (B : Int) = ((min A B : Nat) : Int) := by omega
      generalize hGm : min A B = G at hLe hmin
      have hGM : G ≠ M := by omega
      have hG64 : G < 64 := by omega
      have hP' : PoolAt wr P (w.heap.size + 1) (poR M 24) := hP
      have hM' : MemAt wr (w.heap.size + 1) w.heap.size (poS M 24) := hMp
      clear hP hMp hcell hW hA hB hg6 hg5 hg3 hg4 hxl
      obtain ⟨s1, hs1⟩ : ∃ s, Hid ((poS M 24).given (poR M 24) A = s) := ⟨_, rfl⟩
      obtain ⟨R1, hR1⟩ : ∃ s, Hid (rgive (poR M 24) A = s) := ⟨_, rfl⟩
      rw [hs1.out, hR1.out] at hW1 hW2 hLe
      rw [hR1.out] at u2
      obtain ⟨s2, hs2⟩ : ∃ s, Hid (s1.given R1 B = s) := ⟨_, rfl⟩
      obtain ⟨R2, hR2⟩ : ∃ s, Hid (rgive R1 B = s) := ⟨_, rfl⟩
      rw [hs2.out, hR2.out] at hW2
      rw [hs2.out] at hLe
      obtain ⟨s3, hs3⟩ : ∃ s, Hid (s2.mark G 2 1 = s) := ⟨_, rfl⟩
      obtain ⟨R3, hR3⟩ : ∃ s, Hid (rset R2 G 1 = s) := ⟨_, rfl⟩
      have hmm : s2.mayM G 2 = true := MS.mayM_mk _ _ _ ((MS.hasF_iff _ _).2 ⟨by omega, by rw [hW2.n]; omega⟩) (by omega) (by omega)
      have f1 : s3.cls G = 2 := by rw [← hs3.out, MS.cls_mark _ _ _ _ _ hmm, if_pos rfl]
      have f2 : s3.own G = 1 := by rw [← hs3.out, MS.own_mark _ _ _ _ _ hmm, if_pos rfl]
      have f3 : rf R3 M = 0 := by
        rw [← hR3.out, rf_rset _ _ _ _ (by omega) (by omega), if_neg (by omega)]
        unfold rf; rw [if_pos (by omega)]; exact hW2.rM
      have f4 : rf R3 (-1) = 0 := rfl
      have f5 : rf R3 99 = 0 := rfl
      have f6 : Hid (rshare R3 M = R3) := if_neg (by omega)
      have f7 : Hid (rgive R3 M = R3) := if_neg (by omega)
      have f8 : Hid (s3.given R3 M = s3) := if_neg (by omega)
      have k1 : (0 : Int) ≤ j1 := by omega
      have k2 : (j1 : Int) < 8 := by omega
      have k3 : (0 : Int) ≤ j2 := by omega
      have k4 : (j2 : Int) < 8 := by omega
      clear hW1 hW2 hmm
      go_upto_region 21 with (first
        | (go_at_call 13; refine (ptake_none hP' hM' _ _ (poS_none M)).mono ?_; rintro e wq ⟨rfl, rfl⟩)
        | (go_at_call 12; refine (pleft_any hP' hM').mono ?_; rintro e wq ⟨rfl, rfl⟩))
      go_quiet ((go_at_call 9; exact Calls.quiet_of_same (within_q' _ _ _ (by omega) (by omega))))
      have hP2 := hP'.drewN nq
      have hM2' := hM'.drews nq
      have hT0 := hT.drews nq
      go_wp2_with (first
        | (go_at_call_has 16 (Value.int IntKind.i64 (M : Int)); refine (pgive_any hP5 hM4 _ (by omega)).mono ?_; rintro e w6 ⟨hx, hP6, hM6, hT6⟩; subst hx; rw [f7.out] at hP6; rw [f8.out] at hM6)
        | (go_at_call 16; refine (pgive_any hP1 hM1' _ (by omega)).mono ?_; rintro e w3 ⟨hx, hP3, hM3, hT3⟩; subst hx; rw [hR2.out] at hP3; rw [hs2.out] at hM3)
        | (go_at_call 16; refine (pgive_any hP2 hM2' _ (by omega)).mono ?_; rintro e w2 ⟨hx, hP1, hM1', hT2⟩; subst hx; rw [hR1.out] at hP1; rw [hs1.out] at hM1')
        | (go_at_call 13; refine (ptake_at hP3 hM3 _ _ (Or.inr rfl) hLe G rfl).mono ?_; rintro e w4 ⟨hx, hP4, hM4', hT4⟩; subst hx; rw [hR3.out] at hP4; rw [hs3.out] at hM4')
        | (go_at_call 14; refine (class_any hM4' _).mono ?_; rintro e wq ⟨rfl, rfl⟩)
        | (go_at_call 15; refine (owner_any hM4' _).mono ?_; rintro e wq ⟨rfl, rfl⟩)
        | (go_at_call 17; refine (pshare_any hP4 _ (by omega)).mono ?_; rintro e w5 ⟨hx, hP5, hT5⟩; subst hx; rw [f6.out] at hP5; have hM4 := hM4'.touch hT5 (by show ¬ _ = _; omega) (by show ¬ _ = _; omega))
        | (go_at_call 18; refine (prefs_any hP6 _).mono ?_; rintro e wq ⟨rfl, rfl⟩)
        | (go_at_call 19; refine (wakes3_any _).mono ?_; rintro e w9 ⟨rfl, hT9⟩))
      go_ret
      exact ⟨rfl, ((((((hT0.transNew hT2 (fun i h e => by omega)).transNew hT3 (fun i h e => by omega)).transNew hT4 (fun i h e => by omega)).transNew hT5 (fun i h e => by omega)).transNew hT6 (fun i h e => by omega)).transNew hT9 (fun _ _ e => e)).below (Nat.le_refl _) (fun _ e => e.elim)⟩
end Go.Proofs.Ytbnojbccaalnaaa

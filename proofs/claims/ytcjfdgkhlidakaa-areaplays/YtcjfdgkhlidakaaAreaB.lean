/-
  Package area: New, Clone, Add, Cut, Change, Rights.
-/
import Derived.Test.YtcjfdgkhlidakaaAreaA
namespace Go.Proofs.Ytcjfdgkhlidakaa
open Go.ChangeShapes Go.WideShapes Go.ChangeAt Go.RowKit

def zerosA : Array Value := Array.ofFn (n := 512) (fun i => acell noA i.1)
theorem fresh_A (w : World) {a : Array Value} (h : a = zerosA) : AAt (w.alloc (.cells a 40)) w.heap.size noA := by
  have := World.rowIs_alloc w zerosA 40 (acell noA) (fun i hi => by
    have hi' : i < 512 := by simpa [zerosA] using hi
    unfold zerosA
    rw [Array.getElem?_ofFn]; simp [hi'])
  rw [show zerosA.size = 512 by unfold zerosA; rw [Array.size_ofFn]] at this
  rw [h]; exact this
set_option maxRecDepth 20000 in
set_option maxHeartbeats 1000000 in
theorem anew_any (w : World) :
    Calls Try.prog 4 #[] w fun e w' => e = .returned (.pointer (some ⟨w.heap.size, 0, none⟩)) ∧ AAt w' w.heap.size noA ∧ Touch Nil w w' ∧ w'.heap.size = w.heap.size + 1 := by
  go_enter Try.func4, Try.ntmps4
  go_wp2_with fail
  refine Eq.mpr (congrArg (Oper.upon _ _ _ _ _) (a₂ := Result.ok (Next.value (.agg zerosA)) w) (by kernel_rfl)) ?_
  go_wp2_with fail
  go_ret
  exact ⟨rfl, fresh_A w rfl, (Touch.refl Nil w).alloc _, by simp⟩

def addA (R : Nat → Int) (f n r : Int) : Int × (Nat → Int) :=
  if (rowP f n && riP r) = false then (1, R) else if cntA R f.toNat n.toNat = 0 then (0, setA R f.toNat n.toNat r) else (4, R)
def cutA (R : Nat → Int) (f n : Int) : Int × (Nat → Int) :=
  if rowP f n = false then (1, R) else if cntA R f.toNat n.toNat = n.toNat then (0, setA R f.toNat n.toNat (-1)) else (3, R)
def chgA (R : Nat → Int) (f n r : Int) : Int × (Nat → Int) :=
  if (rowP f n && riP r) = false then (1, R) else if cntA R f.toNat n.toNat = n.toNat then (0, setA R f.toNat n.toNat r) else (3, R)
theorem rowP_iff (f n : Int) : rowP f n = true ↔ 0 ≤ f ∧ 1 ≤ n ∧ n ≤ 256 - f := by simp [rowP]
theorem riP_iff (r : Int) : riP r = true ↔ r = 0 ∨ r = 1 ∨ r = 3 := by simp [riP]
theorem useV_of {r : Int} (h : riP r = true) : useV r = .agg #[.bool true, .int .i64 r] := by
  rcases (riP_iff r).1 h with rfl | rfl | rfl <;> rfl
theorem useV_cut : useV (-1) = .agg #[.bool false, .int .i64 0] := rfl
set_option maxHeartbeats 1000000 in
theorem add_any {w : World} {b : Nat} {R : Nat → Int} (h : AAt w b R) (f n r : Int) (hf : f ≤ 9223372036854775807) :
    Calls Try.prog 7 #[.pointer (some ⟨b, 0, none⟩), .int .i64 f, .int .i64 n, .int .i64 r] w fun e w' => e = .returned (.int .i64 (addA R f n r).1) ∧ AAt w' b (addA R f n r).2 ∧ Touch (· = b) w w' := by
  have hI := isRow_any f n w hf
  have hr := areRights_any r w
  cases e1 : rowP f n with
  | false =>
    have e : addA R f n r = (1, R) := by unfold addA; rw [e1]; rfl
    rw [e]
    rw [e1] at hI
    go_enter Try.func7, Try.ntmps7
    go_wp2_with fail
    with_reducible refine hI.mono ?_
    rintro e wq ⟨rfl, rfl⟩
    go_wp2_with fail
    go_ret
    exact ⟨rfl, h, Touch.refl _ _⟩
  | true =>
    rw [e1] at hI
    cases e2 : riP r with
    | false =>
      have e : addA R f n r = (1, R) := by unfold addA; rw [e1, e2]; rfl
      rw [e]
      rw [e2] at hr
      go_enter Try.func7, Try.ntmps7
      go_wp2_with fail
      with_reducible refine hI.mono ?_
      rintro e wq ⟨rfl, rfl⟩
      go_wp2_with fail
      with_reducible refine hr.mono ?_
      rintro e wq ⟨rfl, rfl⟩
      go_wp2_with fail
      go_ret
      exact ⟨rfl, h, Touch.refl _ _⟩
    | true =>
    rw [e2] at hr
    obtain ⟨f0, n1, fn⟩ := (rowP_iff f n).1 e1
    obtain ⟨F, rfl⟩ : ∃ F : Nat, f = F := ⟨f.toNat, by omega⟩
    obtain ⟨M, rfl⟩ : ∃ M : Nat, n = M := ⟨n.toNat, by omega⟩
    have g1 : (F : Int) ≤ F + M := by omega
    have g2 : (F : Int) + M ≤ 256 := by omega
    have g3 : (F : Int) ≤ 256 := by omega
    have g4 : (0 : Int) ≤ F + M := by omega
    have hw : IntKind.i64.wrap ((F : Int) + M) = F + M := by rw [IntKind.wrap_i64]; omega
    have hC := countThere_any h (F * 2) F M (256 - F) rfl (by omega)
    have hF := fun w4 (t4 : Touch Nil w w4) => fill_any (h.touch t4 (by simp [Nil])) (F * 2) F M (256 - F) rfl (by omega) r
    rw [useV_of e2] at hF
    have hle := cntA_le R F M
    obtain ⟨x, hx⟩ : ∃ x : Nat, cntA R F M = x := ⟨_, rfl⟩
    rw [hx] at hC hle
    by_cases h0 : x = 0
    · have e : addA R F M r = (0, setA R F M r) := by unfold addA; rw [e1, e2]; simp only [Int.toNat_natCast, hx, h0]; rfl
      rw [e]
      clear e
      have hd : decide ((0 : Int) < x) = false := by simp; omega
      go_enter Try.func7, Try.ntmps7
      go_wp2_with fail
      with_reducible refine hI.mono ?_
      rintro e wq ⟨rfl, rfl⟩
      go_wp2_with fail
      with_reducible refine hr.mono ?_
      rintro e wq ⟨rfl, rfl⟩
      clear hr
      go_wp2_with fail
      with_reducible refine hC.mono ?_
      rintro e w4 ⟨rfl, t4⟩
      have hF4 := hF w4 t4
      clear hI hC hF h
      go_wp2_with fail
      with_reducible refine hF4.mono ?_
      rintro e w5 ⟨rfl, h5, t5⟩
      go_wp2_with fail
      go_ret
      exact ⟨rfl, h5, (t4.mono (fun _ _ q => q.elim)).trans t5⟩
    · have e : addA R F M r = (4, R) := by unfold addA; rw [e1, e2]; simp only [Int.toNat_natCast, hx, if_neg h0]; rfl
      rw [e]
      clear e
      have hd : decide ((0 : Int) < x) = true := by simp; omega
      go_enter Try.func7, Try.ntmps7
      go_wp2_with fail
      with_reducible refine hI.mono ?_
      rintro e wq ⟨rfl, rfl⟩
      go_wp2_with fail
      with_reducible refine hr.mono ?_
      rintro e wq ⟨rfl, rfl⟩
      clear hr
      go_wp2_with fail
      with_reducible refine hC.mono ?_
      rintro e w4 ⟨rfl, t4⟩
      clear hI hC hF
      go_wp2_with fail
      go_ret
      exact ⟨rfl, h.touch t4 (by simp [Nil]), t4.mono (fun _ _ q => q.elim)⟩
set_option maxHeartbeats 1000000 in
theorem cut_any {w : World} {b : Nat} {R : Nat → Int} (h : AAt w b R) (f n : Int) (hf : f ≤ 9223372036854775807) :
    Calls Try.prog 9 #[.pointer (some ⟨b, 0, none⟩), .int .i64 f, .int .i64 n] w fun e w' => e = .returned (.int .i64 (cutA R f n).1) ∧ AAt w' b (cutA R f n).2 ∧ Touch (· = b) w w' := by
  have hI := isRow_any f n w hf
  cases e1 : rowP f n with
  | false =>
    have e : cutA R f n = (1, R) := by unfold cutA; rw [e1]; rfl
    rw [e]
    rw [e1] at hI
    go_enter Try.func9, Try.ntmps9
    go_wp2_with fail
    with_reducible refine hI.mono ?_
    rintro e wq ⟨rfl, rfl⟩
    go_wp2_with fail
    go_ret
    exact ⟨rfl, h, Touch.refl _ _⟩
  | true =>
    rw [e1] at hI
    obtain ⟨f0, n1, fn⟩ := (rowP_iff f n).1 e1
    obtain ⟨F, rfl⟩ : ∃ F : Nat, f = F := ⟨f.toNat, by omega⟩
    obtain ⟨M, rfl⟩ : ∃ M : Nat, n = M := ⟨n.toNat, by omega⟩
    have g1 : (F : Int) ≤ F + M := by omega
    have g2 : (F : Int) + M ≤ 256 := by omega
    have g3 : (F : Int) ≤ 256 := by omega
    have g4 : (0 : Int) ≤ F + M := by omega
    have hw : IntKind.i64.wrap ((F : Int) + M) = F + M := by rw [IntKind.wrap_i64]; omega
    have hC := countThere_any h (F * 2) F M (256 - F) rfl (by omega)
    have hF := fun w4 (t4 : Touch Nil w w4) => fill_any (h.touch t4 (by simp [Nil])) (F * 2) F M (256 - F) rfl (by omega) (-1)
    rw [useV_cut] at hF
    have hle := cntA_le R F M
    obtain ⟨x, hx⟩ : ∃ x : Nat, cntA R F M = x := ⟨_, rfl⟩
    rw [hx] at hC hle
    by_cases h0 : x = M
    · have e : cutA R F M = (0, setA R F M (-1)) := by unfold cutA; rw [e1]; simp only [Int.toNat_natCast, hx, h0]; rfl
      rw [e]
      clear e
      have hd : decide ((x : Int) < M) = false := by simp; omega
      go_enter Try.func9, Try.ntmps9
      go_wp2_with fail
      with_reducible refine hI.mono ?_
      rintro e wq ⟨rfl, rfl⟩
      go_wp2_with fail
      with_reducible refine hC.mono ?_
      rintro e w4 ⟨rfl, t4⟩
      have hF4 := hF w4 t4
      clear hI hC hF h
      go_wp2_with fail
      with_reducible refine hF4.mono ?_
      rintro e w5 ⟨rfl, h5, t5⟩
      go_wp2_with fail
      go_ret
      exact ⟨rfl, h5, (t4.mono (fun _ _ q => q.elim)).trans t5⟩
    · have e : cutA R F M = (3, R) := by unfold cutA; rw [e1]; simp only [Int.toNat_natCast, hx, if_neg h0]; rfl
      rw [e]
      clear e
      have hd : decide ((x : Int) < M) = true := by simp; omega
      go_enter Try.func9, Try.ntmps9
      go_wp2_with fail
      with_reducible refine hI.mono ?_
      rintro e wq ⟨rfl, rfl⟩
      go_wp2_with fail
      with_reducible refine hC.mono ?_
      rintro e w4 ⟨rfl, t4⟩
      clear hI hC hF
      go_wp2_with fail
      go_ret
      exact ⟨rfl, h.touch t4 (by simp [Nil]), t4.mono (fun _ _ q => q.elim)⟩
set_option maxHeartbeats 1000000 in
theorem chg_any {w : World} {b : Nat} {R : Nat → Int} (h : AAt w b R) (f n r : Int) (hf : f ≤ 9223372036854775807) :
    Calls Try.prog 11 #[.pointer (some ⟨b, 0, none⟩), .int .i64 f, .int .i64 n, .int .i64 r] w fun e w' => e = .returned (.int .i64 (chgA R f n r).1) ∧ AAt w' b (chgA R f n r).2 ∧ Touch (· = b) w w' := by
  have hI := isRow_any f n w hf
  have hr := areRights_any r w
  cases e1 : rowP f n with
  | false =>
    have e : chgA R f n r = (1, R) := by unfold chgA; rw [e1]; rfl
    rw [e]
    rw [e1] at hI
    go_enter Try.func11, Try.ntmps11
    go_wp2_with fail
    with_reducible refine hI.mono ?_
    rintro e wq ⟨rfl, rfl⟩
    go_wp2_with fail
    go_ret
    exact ⟨rfl, h, Touch.refl _ _⟩
  | true =>
    rw [e1] at hI
    cases e2 : riP r with
    | false =>
      have e : chgA R f n r = (1, R) := by unfold chgA; rw [e1, e2]; rfl
      rw [e]
      rw [e2] at hr
      go_enter Try.func11, Try.ntmps11
      go_wp2_with fail
      with_reducible refine hI.mono ?_
      rintro e wq ⟨rfl, rfl⟩
      go_wp2_with fail
      with_reducible refine hr.mono ?_
      rintro e wq ⟨rfl, rfl⟩
      go_wp2_with fail
      go_ret
      exact ⟨rfl, h, Touch.refl _ _⟩
    | true =>
    rw [e2] at hr
    obtain ⟨f0, n1, fn⟩ := (rowP_iff f n).1 e1
    obtain ⟨F, rfl⟩ : ∃ F : Nat, f = F := ⟨f.toNat, by omega⟩
    obtain ⟨M, rfl⟩ : ∃ M : Nat, n = M := ⟨n.toNat, by omega⟩
    have g1 : (F : Int) ≤ F + M := by omega
    have g2 : (F : Int) + M ≤ 256 := by omega
    have g3 : (F : Int) ≤ 256 := by omega
    have g4 : (0 : Int) ≤ F + M := by omega
    have hw : IntKind.i64.wrap ((F : Int) + M) = F + M := by rw [IntKind.wrap_i64]; omega
    have hC := countThere_any h (F * 2) F M (256 - F) rfl (by omega)
    have hF := fun w4 (t4 : Touch Nil w w4) => fill_any (h.touch t4 (by simp [Nil])) (F * 2) F M (256 - F) rfl (by omega) r
    rw [useV_of e2] at hF
    have hle := cntA_le R F M
    obtain ⟨x, hx⟩ : ∃ x : Nat, cntA R F M = x := ⟨_, rfl⟩
    rw [hx] at hC hle
    by_cases h0 : x = M
    · have e : chgA R F M r = (0, setA R F M r) := by unfold chgA; rw [e1, e2]; simp only [Int.toNat_natCast, hx, h0]; rfl
      rw [e]
      clear e
      have hd : decide ((x : Int) < M) = false := by simp; omega
      go_enter Try.func11, Try.ntmps11
      go_wp2_with fail
      with_reducible refine hI.mono ?_
      rintro e wq ⟨rfl, rfl⟩
      go_wp2_with fail
      with_reducible refine hr.mono ?_
      rintro e wq ⟨rfl, rfl⟩
      clear hr
      go_wp2_with fail
      with_reducible refine hC.mono ?_
      rintro e w4 ⟨rfl, t4⟩
      have hF4 := hF w4 t4
      clear hI hC hF h
      go_wp2_with fail
      with_reducible refine hF4.mono ?_
      rintro e w5 ⟨rfl, h5, t5⟩
      go_wp2_with fail
      go_ret
      exact ⟨rfl, h5, (t4.mono (fun _ _ q => q.elim)).trans t5⟩
    · have e : chgA R F M r = (3, R) := by unfold chgA; rw [e1, e2]; simp only [Int.toNat_natCast, hx, if_neg h0]; rfl
      rw [e]
      clear e
      have hd : decide ((x : Int) < M) = true := by simp; omega
      go_enter Try.func11, Try.ntmps11
      go_wp2_with fail
      with_reducible refine hI.mono ?_
      rintro e wq ⟨rfl, rfl⟩
      go_wp2_with fail
      with_reducible refine hr.mono ?_
      rintro e wq ⟨rfl, rfl⟩
      clear hr
      go_wp2_with fail
      with_reducible refine hC.mono ?_
      rintro e w4 ⟨rfl, t4⟩
      clear hI hC hF
      go_wp2_with fail
      go_ret
      exact ⟨rfl, h.touch t4 (by simp [Nil]), t4.mono (fun _ _ q => q.elim)⟩
end Go.Proofs.Ytcjfdgkhlidakaa

/-
  The walk of PcidForms.
-/
import Derived.Test.YtpffilnebffijaaNamC
import Derived.Test.YtpffilnebffijaaListB
namespace Go.Proofs.Ytpffilnebffijaa
open Go.ChangeShapes Go.WideShapes Go.ChangeAt Go.RowKit

/-- The processes, in their order. -/
def lf (r i : Nat) : Nat := (i + r) % 4
def pf3 (r : Nat) : Nat → NS
  | 0 => NS.fresh 2
  | k + 1 => (pf3 r k).ofN (lf r k)
theorem pf3_ok (r : Nat) : ∀ k, (pf3 r k).OK
  | 0 => NS.fresh_ok 2
  | k + 1 => (pf3_ok r k).ofN _
theorem pf3_of : ∀ r < 4, ∀ k < 3, (pf3 r k).ofP (lf r k) = k + 1 ∧ (pf3 r k).ofA (lf r k) = false ∧ (pf3 r k).g = 0 := by decide +kernel
def q0 (r : Nat) : NS := pf3 r 3
theorem q0_ok (r : Nat) : (q0 r).OK := pf3_ok r 3
def q1 (r : Nat) : NS := (q0 r).must 0 2
theorem q1_ok (r : Nat) : (q1 r).OK := (q0_ok r).must _ _
def q2 (r : Nat) : NS := (q1 r).all 3
theorem q2_ok (r : Nat) : (q2 r).OK := (q1_ok r).all _
def q3 (r : Nat) : NS := (q2 r).take 1 3
theorem q3_ok (r : Nat) : (q3 r).OK := (q2_ok r).take _ _
def q4 (r : Nat) : NS := (q3 r).take 1 3
theorem q4_ok (r : Nat) : (q4 r).OK := (q3_ok r).take _ _
def q5 (r : Nat) : NS := (q4 r).take 1 2
theorem q5_ok (r : Nat) : (q5 r).OK := (q4_ok r).take _ _
def q6 (r : Nat) : NS := (q5 r).ofN (lf r 3 : Int)
theorem q6_ok (r : Nat) : (q6 r).OK := (q5_ok r).ofN _
def q7 (r : Nat) : NS := (q6 r).take 0 2
theorem q7_ok (r : Nat) : (q7 r).OK := (q6_ok r).take _ _
def q8 (r : Nat) : NS := (q7 r).take 0 3
theorem q8_ok (r : Nat) : (q8 r).OK := (q7_ok r).take _ _
def q9 (r : Nat) : NS := (q8 r).ofN (lf r 0 : Int)
theorem q9_ok (r : Nat) : (q9 r).OK := (q8_ok r).ofN _
def q10 (r : Nat) : NS := (q9 r).ofN (lf r 0 : Int)
theorem q10_ok (r : Nat) : (q10 r).OK := (q9_ok r).ofN _
def q11 (r : Nat) : NS := (q10 r).drop (lf r 3 : Int)
theorem q11_ok (r : Nat) : (q11 r).OK := (q10_ok r).drop _
def q12 (r : Nat) : NS := (q11 r).take 0 1
theorem q12_ok (r : Nat) : (q12 r).OK := (q11_ok r).take _ _
def q13 (r : Nat) : NS := (q12 r).take 1 1
theorem q13_ok (r : Nat) : (q13 r).OK := (q12_ok r).take _ _
def q14 (r : Nat) : NS := (q13 r).take 1 1
theorem q14_ok (r : Nat) : (q14 r).OK := (q13_ok r).take _ _
def q15 (r : Nat) : NS := (q14 r).ofN (lf r 1 : Int)
theorem q15_ok (r : Nat) : (q15 r).OK := (q14_ok r).ofN _
def q16 (r : Nat) : NS := (q15 r).ofN 4
theorem q16_ok (r : Nat) : (q16 r).OK := (q15_ok r).ofN _
def q17 (r : Nat) : NS := (q16 r).take 2 1
theorem q17_ok (r : Nat) : (q17 r).OK := (q16_ok r).take _ _
def q18 (r : Nat) : NS := (q17 r).take 0 0
theorem q18_ok (r : Nat) : (q18 r).OK := (q17_ok r).take _ _
def q19 (r : Nat) : NS := (q18 r).take 0 4
theorem q19_ok (r : Nat) : (q19 r).OK := (q18_ok r).take _ _
theorem q2_t : ∀ r < 4, (q2 r).took 1 3 = true := by decide +kernel
theorem q3_t : ∀ r < 4, (q3 r).took 1 3 = false := by decide +kernel
theorem q4_t : ∀ r < 4, (q4 r).took 1 2 = false := by decide +kernel
theorem q6_t : ∀ r < 4, (q6 r).took 0 2 = false := by decide +kernel
theorem q7_t : ∀ r < 4, (q7 r).took 0 3 = false := by decide +kernel
theorem q11_t : ∀ r < 4, (q11 r).took 0 1 = true := by decide +kernel
theorem q12_t : ∀ r < 4, (q12 r).took 1 1 = true := by decide +kernel
theorem q13_t : ∀ r < 4, (q13 r).took 1 1 = false := by decide +kernel
theorem q16_t : ∀ r < 4, (q16 r).took 2 1 = false := by decide +kernel
theorem q17_t : ∀ r < 4, (q17 r).took 0 0 = false := by decide +kernel
theorem q18_t : ∀ r < 4, (q18 r).took 0 4 = false := by decide +kernel
theorem q5_o : ∀ r < 4, (q5 r).ofP (lf r 3 : Int) = 1 ∧ (q5 r).ofA (lf r 3 : Int) = true ∧ (q5 r).g ≤ 1000000 := by decide +kernel
theorem q8_o : ∀ r < 4, (q8 r).ofP (lf r 0 : Int) = 2 ∧ (q8 r).ofA (lf r 0 : Int) = false ∧ (q8 r).g ≤ 1000000 := by decide +kernel
theorem q9_o : ∀ r < 4, (q9 r).ofP (lf r 0 : Int) = 2 ∧ (q9 r).ofA (lf r 0 : Int) = false ∧ (q9 r).g ≤ 1000000 := by decide +kernel
theorem q14_o : ∀ r < 4, (q14 r).ofP (lf r 1 : Int) = 1 ∧ (q14 r).ofA (lf r 1 : Int) = false ∧ (q14 r).g ≤ 1000000 := by decide +kernel
theorem q15_o : ∀ r < 4, (q15 r).ofP 4 = 0 ∧ (q15 r).ofA 4 = false ∧ (q15 r).g ≤ 1000000 := by decide +kernel
theorem q6_g : ∀ r < 4, (q6 r).g = 1 ∧ (q6 r).pair (lf r 0 : Int) = 0 := by decide +kernel
theorem q11_p : ∀ r < 4, (q11 r).pair (lf r 3 : Int) = 0 := by decide +kernel
theorem q16_p : ∀ r < 4, (q16 r).pair (-1) = 0 := by decide +kernel

/-- Names at w's end, the processes' list behind them. -/
structure PfI (w : World) (g r : Nat) (S : NS) (wr : World) : Prop where
  n : NAt wr w.heap.size S
  t : Touch Nil w wr
  c : ∀ i, i < 4 → wr.cell? ⟨g, i, none⟩ = some (.int .i64 (lf r i))
  ne : g ≠ w.heap.size
  lt : g < wr.heap.size
theorem PfI.step {w wr w' : World} {g r : Nat} {S S' : NS} (h : PfI w g r S wr) (n : NAt w' w.heap.size S') (t : Touch (· = w.heap.size) wr w') : PfI w g r S' w' := by
  refine ⟨n, h.t.transNew t (fun i hi e => by omega), fun i hi => ?_, h.ne, Nat.lt_of_lt_of_le h.lt t.size⟩
  have := t.block g h.lt h.ne
  have hc := h.c i hi
  unfold World.cell? at hc ⊢
  rw [this]; exact hc

set_option maxRecDepth 20000 in
set_option maxHeartbeats 4000000 in
theorem pcidForms_walk (a0 : Int) (w : World) :
    Calls Try.prog 4 #[.int .i64 a0] w fun e w' => e = .returned (.bool true) ∧ Touch Nil w w' := by
  obtain ⟨r, hr⟩ : ∃ r : Nat, Hid (a0 % 4 = r) := ⟨(a0 % 4).toNat, by show _ = _; have := Int.emod_nonneg a0 (b := 4) (by omega); omega⟩
  have hr4 : r < 4 := by have := hr.out; have := Int.emod_lt_of_pos a0 (b := 4) (by omega); omega
  go_enter Try.func4, Try.ntmps4
  go_wp2_with fail
  with_reducible refine (nnew_any 2 w).mono ?_
  rintro e w1 ⟨rfl, h1, t1, s1⟩
  rw [show NS.cpus 2 = 2 from rfl] at h1
  go_wp2_with fail
  go_loopg [4, 5] 4 (fun g l i wr => ∃ (k : Nat) (a : Option Addr) (cap : Nat), g + k = 4 ∧ i = .int .i64 k ∧ l = .slice a k cap ∧ NL wr a cap ((List.range k).map fun i => (lf r i : Int)) ∧ (∀ b, blkA a b → w.heap.size + 1 ≤ b) ∧ NAt wr w.heap.size (NS.fresh 2) ∧ Touch Nil w wr)
  case atStart => exact ⟨0, none, 0, by omega, rfl, rfl, NL.nil _, (fun b hb => by obtain ⟨o, e⟩ := hb; cases e), h1, t1⟩
  case round =>
    clear h1 t1 s1
    obtain ⟨k, a, cap, hgk, rfl, rfl, hl, hab, h, t⟩ := hrel
    by_cases hk : k < 4
    · have k1 : (k : Int) < 4 := by omega
      have hW := within_any a0 4 wr (by decide) (by decide)
      rw [hr.out] at hW
      go_wp2_with fail
      with_reducible refine hW.mono ?_
      rintro e wq ⟨rfl, rfl⟩
      have hlen : ((List.range k).map fun i => (lf r i : Int)).length = k := by simp
      have tA := (Touch.refl Nil wr).alloc (.cells #[.int .i64 (lf r k)] 3)
      have hB := heap_alloc_new wr (.cells #[.int .i64 (lf r k)] 3)
      obtain ⟨g, cap', wN, hrun, hlN, tN, hgN⟩ := (hl.touch tA (fun _ _ => id)).app (by rw [hlen]; omega) (lf r k : Int) wr.heap.size (by unfold World.cell?; rw [hB]; rfl)
      rw [hlen] at hrun
      have hmod : Hid (((k : Int) + r) % 4 = (lf r k : Int)) := by show _ = _; unfold lf; omega
      have hm2 : ((k : Int) + r).tmod 4 = (lf r k : Int) := by rw [Int.tmod_eq_emod_of_nonneg (by omega)]; exact hmod.out
      have hNN := (h.touch tA id).touch tN (fun e => by have := hab _ e; omega)
      have TN := (t.trans tA).transNew tN (fun i hi e => by have := hab _ e; omega)
      have hgb : w.heap.size + 1 ≤ g := by
        rcases hgN with e | e
        · exact hab _ e
        · have := tA.size; have := h.lt; omega
      have hls : (List.range (k + 1)).map (fun i => (lf r i : Int)) = (List.range k).map (fun i => (lf r i : Int)) ++ [(lf r k : Int)] := by rw [List.range_succ, List.map_append]; rfl
      rw [← hls] at hlN
      go_wp2_with (refine Lib.wpList_append_run_sl _ rfl _ _ 22 rfl _ _ rfl rfl hrun ?_)
      go_roundg (3 - k)
      case measure => omega
      case rel => exact ⟨k + 1, some ⟨g, 0, none⟩, cap', by omega, by go_num, rfl, hlN, fun b hb => (by obtain ⟨o, e⟩ := hb; cases e; exact hgb), hNN, TN⟩
    · have h4 : k = 4 := by omega
      subst h4
      have hI : ∃ g, a = some ⟨g, 0, none⟩ ∧ (4 ≤ cap ∧ cap ≤ maxLen) ∧ PfI w g r (pf3 r 0) wr := by
        rcases hl.cells with e | ⟨g, rfl, hg, hc⟩
        · simp at e
        · refine ⟨g, rfl, ?_, h, t, fun i hi => ?_, by have := hab g ⟨0, rfl⟩; omega, hg⟩
          · rcases hl with ⟨e, _⟩ | ⟨_, _, _, _, e1, e2, _⟩
            · cases e
            · simp at e1; exact ⟨e1, e2⟩
          · rw [hc i (by simpa using hi)]; simp [List.getD, hi]
      obtain ⟨g, rfl, ⟨hcap, hcap2⟩, I⟩ := hI
      have z4 : (3 : Int) ≤ cap := by omega
      clear hl h t hab
      go_wp2_with fail
      go_loopg [38] 3 (fun gg i wx => ∃ k : Nat, gg + k = 3 ∧ i = .int .i64 k ∧ PfI w g r (pf3 r k) wx)
      case atStart => exact ⟨0, by omega, rfl, I⟩
      case round =>
        clear I
        obtain ⟨k, hgk, rfl, I⟩ := hrel
        by_cases hk : k < 3
        · have k1 : (k : Int) < 3 := by omega
          have cc := I.c k (by omega)
          obtain ⟨f1, f2, f3⟩ := pf3_of r hr4 k hk
          have hO := nof_any I.n (by rw [f3]; omega) (lf r k : Int)
          rw [f1, f2] at hO
          clear f1 f2 f3
          go_wp2_with fail
          with_reducible refine hO.mono ?_
          rintro e w2 ⟨rfl, h2, t2⟩
          have I2 := I.step h2 t2
          clear I hO h2 t2 cc
          go_wp2_with fail
          go_roundg (2 - k)
          case measure => omega
          case rel => exact ⟨k + 1, by omega, by go_num, I2⟩
        · have h3 : k = 3 := by omega
          subst h3
          have I : PfI w g r (q0 r) _ := I
          have c0 := I.c 0 (by omega)
          have c1 := I.c 1 (by omega)
          have c3 := I.c 3 (by omega)
          have hX := nmust_any I.n (q0_ok r) 0 2
          go_wp2_with fail
          with_reducible refine hX.mono ?_
          rintro e w2 ⟨rfl, h2, t2⟩
          replace I : PfI w g r (q1 r) w2 := I.step h2 t2
          clear hX h2 t2
          have c0 := I.c 0 (by omega)
          have c1 := I.c 1 (by omega)
          have c3 := I.c 3 (by omega)
          have hX := nall_any I.n (q1_ok r) 3
          go_wp2_with fail
          with_reducible refine hX.mono ?_
          rintro e w2 ⟨rfl, h2, t2⟩
          replace I : PfI w g r (q2 r) w2 := I.step h2 t2
          clear hX h2 t2
          have c0 := I.c 0 (by omega)
          have c1 := I.c 1 (by omega)
          have c3 := I.c 3 (by omega)
          have hX := ntake_any I.n (q2_ok r) 1 3
          rw [q2_t r hr4] at hX
          go_wp2_with fail
          with_reducible refine hX.mono ?_
          rintro e w2 ⟨rfl, h2, t2⟩
          replace I : PfI w g r (q3 r) w2 := I.step h2 t2
          clear hX h2 t2
          have c0 := I.c 0 (by omega)
          have c1 := I.c 1 (by omega)
          have c3 := I.c 3 (by omega)
          have hX := ntake_any I.n (q3_ok r) 1 3
          rw [q3_t r hr4] at hX
          go_wp2_with fail
          with_reducible refine hX.mono ?_
          rintro e w2 ⟨rfl, h2, t2⟩
          replace I : PfI w g r (q4 r) w2 := I.step h2 t2
          clear hX h2 t2
          have c0 := I.c 0 (by omega)
          have c1 := I.c 1 (by omega)
          have c3 := I.c 3 (by omega)
          have hX := ntake_any I.n (q4_ok r) 1 2
          rw [q4_t r hr4] at hX
          go_wp2_with fail
          with_reducible refine hX.mono ?_
          rintro e w2 ⟨rfl, h2, t2⟩
          replace I : PfI w g r (q5 r) w2 := I.step h2 t2
          clear hX h2 t2
          have c0 := I.c 0 (by omega)
          have c1 := I.c 1 (by omega)
          have c3 := I.c 3 (by omega)
          have hX := nof_any I.n (q5_o r hr4).2.2 (lf r 3 : Int)
          rw [(q5_o r hr4).1, (q5_o r hr4).2.1] at hX
          go_wp2_with fail
          with_reducible refine hX.mono ?_
          rintro e w2 ⟨rfl, h2, t2⟩
          replace I : PfI w g r (q6 r) w2 := I.step h2 t2
          clear hX h2 t2
          have c0 := I.c 0 (by omega)
          have c1 := I.c 1 (by omega)
          have c3 := I.c 3 (by omega)
          have hX := ngen_any I.n
          rw [(q6_g r hr4).1] at hX
          go_wp2_with fail
          with_reducible refine hX.mono ?_
          rintro e wq ⟨rfl, rfl⟩
          clear hX
          have hX := npair_any I.n (lf r 0 : Int)
          rw [(q6_g r hr4).2] at hX
          go_wp2_with fail
          with_reducible refine hX.mono ?_
          rintro e wq ⟨rfl, rfl⟩
          clear hX
          have hX := ntake_any I.n (q6_ok r) 0 2
          rw [q6_t r hr4] at hX
          go_wp2_with fail
          with_reducible refine hX.mono ?_
          rintro e w2 ⟨rfl, h2, t2⟩
          replace I : PfI w g r (q7 r) w2 := I.step h2 t2
          clear hX h2 t2
          have c0 := I.c 0 (by omega)
          have c1 := I.c 1 (by omega)
          have c3 := I.c 3 (by omega)
          have hX := ntake_any I.n (q7_ok r) 0 3
          rw [q7_t r hr4] at hX
          go_wp2_with fail
          with_reducible refine hX.mono ?_
          rintro e w2 ⟨rfl, h2, t2⟩
          replace I : PfI w g r (q8 r) w2 := I.step h2 t2
          clear hX h2 t2
          have c0 := I.c 0 (by omega)
          have c1 := I.c 1 (by omega)
          have c3 := I.c 3 (by omega)
          have hX := nof_any I.n (q8_o r hr4).2.2 (lf r 0 : Int)
          rw [(q8_o r hr4).1, (q8_o r hr4).2.1] at hX
          go_wp2_with fail
          with_reducible refine hX.mono ?_
          rintro e w2 ⟨rfl, h2, t2⟩
          replace I : PfI w g r (q9 r) w2 := I.step h2 t2
          clear hX h2 t2
          have c0 := I.c 0 (by omega)
          have c1 := I.c 1 (by omega)
          have c3 := I.c 3 (by omega)
          have hX := nof_any I.n (q9_o r hr4).2.2 (lf r 0 : Int)
          rw [(q9_o r hr4).1, (q9_o r hr4).2.1] at hX
          go_wp2_with fail
          with_reducible refine hX.mono ?_
          rintro e w2 ⟨rfl, h2, t2⟩
          replace I : PfI w g r (q10 r) w2 := I.step h2 t2
          clear hX h2 t2
          have c0 := I.c 0 (by omega)
          have c1 := I.c 1 (by omega)
          have c3 := I.c 3 (by omega)
          have hX := ndrop_any I.n (q10_ok r) (lf r 3 : Int)
          go_wp2_with fail
          with_reducible refine hX.mono ?_
          rintro e w2 ⟨rfl, h2, t2⟩
          replace I : PfI w g r (q11 r) w2 := I.step h2 t2
          clear hX h2 t2
          have c0 := I.c 0 (by omega)
          have c1 := I.c 1 (by omega)
          have c3 := I.c 3 (by omega)
          have hX := npair_any I.n (lf r 3 : Int)
          rw [q11_p r hr4] at hX
          go_wp2_with fail
          with_reducible refine hX.mono ?_
          rintro e wq ⟨rfl, rfl⟩
          clear hX
          have hX := ntake_any I.n (q11_ok r) 0 1
          rw [q11_t r hr4] at hX
          go_wp2_with fail
          with_reducible refine hX.mono ?_
          rintro e w2 ⟨rfl, h2, t2⟩
          replace I : PfI w g r (q12 r) w2 := I.step h2 t2
          clear hX h2 t2
          have c0 := I.c 0 (by omega)
          have c1 := I.c 1 (by omega)
          have c3 := I.c 3 (by omega)
          have hX := ntake_any I.n (q12_ok r) 1 1
          rw [q12_t r hr4] at hX
          go_wp2_with fail
          with_reducible refine hX.mono ?_
          rintro e w2 ⟨rfl, h2, t2⟩
          replace I : PfI w g r (q13 r) w2 := I.step h2 t2
          clear hX h2 t2
          have c0 := I.c 0 (by omega)
          have c1 := I.c 1 (by omega)
          have c3 := I.c 3 (by omega)
          have hX := ntake_any I.n (q13_ok r) 1 1
          rw [q13_t r hr4] at hX
          go_wp2_with fail
          with_reducible refine hX.mono ?_
          rintro e w2 ⟨rfl, h2, t2⟩
          replace I : PfI w g r (q14 r) w2 := I.step h2 t2
          clear hX h2 t2
          have c0 := I.c 0 (by omega)
          have c1 := I.c 1 (by omega)
          have c3 := I.c 3 (by omega)
          have hX := nof_any I.n (q14_o r hr4).2.2 (lf r 1 : Int)
          rw [(q14_o r hr4).1, (q14_o r hr4).2.1] at hX
          go_wp2_with fail
          with_reducible refine hX.mono ?_
          rintro e w2 ⟨rfl, h2, t2⟩
          replace I : PfI w g r (q15 r) w2 := I.step h2 t2
          clear hX h2 t2
          have c0 := I.c 0 (by omega)
          have c1 := I.c 1 (by omega)
          have c3 := I.c 3 (by omega)
          have hX := nof_any I.n (q15_o r hr4).2.2 4
          rw [(q15_o r hr4).1, (q15_o r hr4).2.1] at hX
          go_wp2_with fail
          with_reducible refine hX.mono ?_
          rintro e w2 ⟨rfl, h2, t2⟩
          replace I : PfI w g r (q16 r) w2 := I.step h2 t2
          clear hX h2 t2
          have c0 := I.c 0 (by omega)
          have c1 := I.c 1 (by omega)
          have c3 := I.c 3 (by omega)
          have hX := npair_any I.n (-1)
          rw [q16_p r hr4] at hX
          go_wp2_with fail
          with_reducible refine hX.mono ?_
          rintro e wq ⟨rfl, rfl⟩
          clear hX
          have hX := ntake_any I.n (q16_ok r) 2 1
          rw [q16_t r hr4] at hX
          go_wp2_with fail
          with_reducible refine hX.mono ?_
          rintro e w2 ⟨rfl, h2, t2⟩
          replace I : PfI w g r (q17 r) w2 := I.step h2 t2
          clear hX h2 t2
          have c0 := I.c 0 (by omega)
          have c1 := I.c 1 (by omega)
          have c3 := I.c 3 (by omega)
          have hX := ntake_any I.n (q17_ok r) 0 0
          rw [q17_t r hr4] at hX
          go_wp2_with fail
          with_reducible refine hX.mono ?_
          rintro e w2 ⟨rfl, h2, t2⟩
          replace I : PfI w g r (q18 r) w2 := I.step h2 t2
          clear hX h2 t2
          have c0 := I.c 0 (by omega)
          have c1 := I.c 1 (by omega)
          have c3 := I.c 3 (by omega)
          have hX := ntake_any I.n (q18_ok r) 0 4
          rw [q18_t r hr4] at hX
          go_wp2_with fail
          with_reducible refine hX.mono ?_
          rintro e w2 ⟨rfl, h2, t2⟩
          replace I : PfI w g r (q19 r) w2 := I.step h2 t2
          clear hX h2 t2
          have c0 := I.c 0 (by omega)
          have c1 := I.c 1 (by omega)
          have c3 := I.c 3 (by omega)
          go_wp2_with fail
          with_reducible refine (wakes11 _).mono ?_
          rintro e w2 ⟨rfl, t2⟩
          have T := I.t.trans t2
          go_wp2_with fail
          go_ret
          exact ⟨rfl, T⟩
end Go.Proofs.Ytpffilnebffijaa

/-
  The walk of TlbRoom.
-/
import Derived.Test.YtleeodpnamnnfaaTlbI
namespace Go.Proofs.Ytleeodpnamnnfaa
open Go.ChangeShapes Go.WideShapes Go.ChangeAt Go.RowKit

def rit (i : Nat) : It := ⟨1, i, i, false, false, false⟩
/-- Behind i that were put: the last eight. -/
def rl (i : Nat) : List It := ((List.range i).map rit).drop (i - 8)
def rk (n k : Nat) : It := ⟨1, (n : Int) - 8 + k, 77, false, false, false⟩
def r1 (n k : Nat) : List It := put (rk n k) (rl n)
def r2 (n k : Nat) : List It := put ⟨2, 0, 0, false, false, false⟩ (r1 n k)

theorem rl_step : ∀ i, i < 20 → put (rit i) (rl i) = rl (i + 1) := by decide
theorem rl_facts : ∀ n, n < 20 → 8 ≤ n → (rl n).length = 8 ∧ (rl n)[0]? = some (rit (n - 8)) ∧ (rl n)[7]? = some (rit (n - 1)) := by decide
theorem r1_facts : ∀ n, n < 20 → 8 ≤ n → ∀ k, k < 8 → (r1 n k).length = 8 ∧ (r1 n k)[7]? = some (rk n k) := by decide
theorem r2_facts : ∀ n, n < 20 → 8 ≤ n → ∀ k, k < 8 → (r2 n k).length = 8 ∧ finds 1 ((n : Int) - 8) (r2 n k) = decide ((k : Int) = 0) ∧ finds 1 ((n : Int) - 7) (r2 n k) = !decide ((k : Int) = 0) := by decide

theorem kzero (k : Int) : ∃ u : Bool, decide (k = 0) = u ∧ (k == 0) = u ∧ (k != 0) = !u := by
  by_cases h : k = 0
  · exact ⟨true, by simp [h], by simp [h], by simp [h]⟩
  · exact ⟨false, by simp [h], by simp [h], by simp [h]⟩

set_option maxHeartbeats 1000000 in
theorem tlbRoom_walk (a0 a1 : Int) (w : World) :
    Calls Try.prog 4 #[.int .i64 a0, .int .i64 a1] w fun e w' => e = .returned (.bool true) ∧ Below w.heap.size w w' := by
  have hw0 := within_any a0 12
  have q0 := Int.emod_nonneg a0 (b := 12) (by omega)
  have q1 := Int.emod_lt_of_pos a0 (b := 12) (by omega)
  obtain ⟨r, hr⟩ := Int.eq_ofNat_of_zero_le q0
  rw [hr] at hw0 q1
  have hw1 := within_any a1 8
  have q2 := Int.emod_nonneg a1 (b := 8) (by omega)
  have q3 := Int.emod_lt_of_pos a1 (b := 8) (by omega)
  obtain ⟨k, hk⟩ := Int.eq_ofNat_of_zero_le q2
  rw [hk] at hw1 q3
  clear hr hk q0 q2
  obtain ⟨n, hr8⟩ : ∃ n : Nat, (8 : Int) + (r : Int) = (n : Int) := ⟨8 + r, by omega⟩
  have n1 : 8 ≤ n := by omega
  have n2 : n < 20 := by omega
  go_enter Try.func4, Try.ntmps4
  go_wp2_with (first
    | (go_at_call 8; refine (st_new _).mono ?_; rintro e w1 ⟨rfl, hA, hS⟩)
    | (go_at_call_has 9 (Value.int .i64 a0); refine (hw0 _ (by omega) (by omega)).mono ?_; rintro e wq ⟨rfl, rfl⟩))
  clear hr8 hw0 hS
  go_loopg [6] n (fun g i wr => ∃ j : Nat, g + j = n ∧ i = .int .i64 j ∧ ∃ gg, St w wr w.heap.size gg (rl j))
  case atStart => exact ⟨0, by omega, rfl, none, hA⟩
  case round =>
    clear hA
    obtain ⟨j, hgj, rfl, gg, hA⟩ := hrel
    by_cases hlt : j < n
    · have hlz : (j : Int) < (n : Int) := by omega
      have hst := rl_step j (by omega)
      go_wp2_with (go_at_call 10; refine (st_put hA (rit j)).mono ?_; rw [hst]; rintro e w2 ⟨rfl, g2, hA2, _, _⟩)
      go_roundg (n - (j + 1))
      case measure => omega
      case rel => exact ⟨j + 1, by omega, by go_num, g2, hA2⟩
    · obtain rfl : j = n := by omega
      have hlz : ¬ ((j : Int) < (j : Int)) := by omega
      obtain ⟨e1, e2, e3⟩ := rl_facts j n2 n1
      obtain ⟨e4, e5⟩ := r1_facts j n2 n1 k (by omega)
      obtain ⟨e6, e7, e8⟩ := r2_facts j n2 n1 k (by omega)
      have m1 : ((j - 8 : Nat) : Int) = (j : Int) - 8 := by omega
      have m2 : ((j - 1 : Nat) : Int) = (j : Int) - 1 := by omega
      go_wp2_with fail
      refine (st_list hA).mono ?_
      rw [e1]
      rintro e w2 ⟨a, cap, rfl, hA2, hL, hfr, ho, t2⟩
      obtain ⟨b, o, rfl, hL'⟩ := LAt.row hL (by intro h; rw [h] at e1; simp at e1)
      obtain rfl : o = 0 := (ho _ rfl).1
      obtain ⟨_, c1, _⟩ := hL'.six0 e2
      obtain ⟨_, d1, _⟩ := hL'.six0 e3
      simp only [rit, m1, m2, Nat.reduceMul, Nat.reduceAdd] at c1 d1
      clear hL hL' hfr ho e2 e3 t2 hA
      go_wp2_with (go_at_call 9; refine (hw1 _ (by omega) (by omega)).mono ?_; rintro e wq ⟨rfl, rfl⟩)
      refine (st_put hA2 (rk j k)).mono ?_
      rintro e w3 ⟨rfl, g3, hA3, _, _⟩
      change St w w3 w.heap.size g3 (r1 j k) at hA3
      clear hA2
      go_wp2_with fail
      refine (st_list hA3).mono ?_
      rw [e4]
      rintro e w4 ⟨a, cap4, rfl, hA4, hL, hfr, ho, t2⟩
      obtain ⟨b4, o, rfl, hL'⟩ := LAt.row hL (by intro h; rw [h] at e4; simp at e4)
      obtain rfl : o = 0 := (ho _ rfl).1
      obtain ⟨_, c1, c2, _⟩ := hL'.six0 e5
      simp only [rk, Nat.reduceMul, Nat.reduceAdd] at c1 c2
      clear hL hL' hfr ho e5 t2 hA3
      go_wp2_with fail
      refine (st_put hA4 ⟨2, 0, 0, false, false, false⟩).mono ?_
      rintro e w5 ⟨rfl, g5, hA5, _, _⟩
      change St w w5 w.heap.size g5 (r2 j k) at hA5
      clear hA4
      go_wp2_with fail
      with_reducible refine (st_find hA5 1 ((j : Int) - 8)).mono ?_
      rw [e7]
      rintro e w6 ⟨rfl, hA6, _⟩
      clear hA5
      generalize found 1 ((j : Int) - 8) (r2 j k) = y1
      go_wp2_with fail
      have hA7 := hA6.alloc (bxO y1 26)
      with_reducible refine (st_find hA7 1 ((j : Int) - 7)).mono ?_
      rw [e8]
      rintro e w7 ⟨rfl, hA8, _⟩
      clear hA6 hA7
      generalize found 1 ((j : Int) - 7) (r2 j k) = y2
      have hA9 := hA8.alloc (bxO y2 26)
      clear hA8
      obtain ⟨u, u1, u2, u3⟩ := kzero (k : Int)
      rw [u1]
      clear e7 e8
      cases u
      · have hk0 : ¬ (k : Int) = 0 := of_decide_eq_false u1
        simp only [Bool.not_false] at u3 ⊢
        clear u1
        go_wp2_with fail
        with_reducible refine (st_list hA9).mono ?_
        rw [e6]
        rintro e w8 ⟨a, cap, rfl, hB2, _, _, _, _⟩
        go_wp2_with fail
        refine (wakes6_any _).mono ?_
        rintro e w9 ⟨rfl, t6⟩
        go_wp2_with fail
        go_ret
        exact ⟨rfl, (hB2.t.trans t6).below (Nat.le_refl _) (by simp [Nil])⟩
      · have hk0 : (k : Int) = 0 := of_decide_eq_true u1
        obtain rfl : k = 0 := by omega
        simp only [Bool.not_true] at u3 ⊢
        clear u1 u2 u3 hk0
        go_wp2_with fail
        with_reducible refine (st_list hA9).mono ?_
        rw [e6]
        rintro e w8 ⟨a, cap, rfl, hB2, _, _, _, _⟩
        go_wp2_with fail
        refine (wakes6_any _).mono ?_
        rintro e w9 ⟨rfl, t6⟩
        go_wp2_with fail
        go_ret
        exact ⟨rfl, (hB2.t.trans t6).below (Nat.le_refl _) (by simp [Nil])⟩
end Go.Proofs.Ytleeodpnamnnfaa

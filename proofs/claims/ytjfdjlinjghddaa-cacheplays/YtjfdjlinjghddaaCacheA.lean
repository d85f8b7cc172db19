/-
  What each call of package cache's inner store comes to: one contract a function.
-/
import Derived.Test.YtjfdjlinjghddaaKeep
import Derived.Test.YtjfdjlinjghddaaCacheS
import Derived.Test.YtjfdjlinjghddaaRows3
import Derived.WalkKit
import Derived.ProofKit
import Derived.OpenShut
import Derived.Outline
import Derived.WalkLawsBesides
import Derived.LoopTactic
import Derived.Deep.QuietTactic
import Derived.BigQuiet
import Derived.Laws.IdiomCopy
import Derived.Deep.RegionLaw
import Derived.Sort.AtCall
namespace Go.Proofs.Ytjfdjlinjghddaa
open Go.ChangeShapes Go.WideShapes Go.ChangeAt Go.RowKit

/-- A store lies at p, o; its lines at c: K sets of V ways. -/
structure SAt (w : World) (p o c cap K V : Nat) (S : Sets) : Prop where
  kv : (K = 4 ∧ V = 2) ∨ (K = 8 ∧ V = 4)
  ok : SOK K V S
  ne : p ≠ c
  cap1 : K * V ≤ cap
  cap2 : cap ≤ maxLen
  ways : w.cell? ⟨p, o, none⟩ = some (.int .i64 V)
  lines : w.cell? ⟨p, o + 1, none⟩ = some (.slice (some ⟨c, 0, none⟩) (K * V) cap)
  row : rowHas w c 3 (K * V) (fun i => .int .i64 (tg S V i))

theorem SAt.drewN {w : World} {p o c cap K V : Nat} {S : Sets} (h : SAt w p o c cap K V S) (n : Nat) : SAt (w.drewN n) p o c cap K V S :=
  ⟨h.kv, h.ok, h.ne, h.cap1, h.cap2, h.ways, h.lines, h.row⟩

theorem drewN2 (w : World) (a b : Nat) : (w.drewN a).drewN b = w.drewN (a + b) := by simp [World.drewN, Nat.add_assoc]
theorem ret_slice {c o o' n n' k k' : Nat} (h1 : o = o') (h2 : n = n') (h3 : k = k') : Ending.returned (.slice (some ⟨c, o, none⟩) n k) = .returned (.slice (some ⟨c, o', none⟩) n' k') := by rw [h1, h2, h3]

set_option maxHeartbeats 1000000 in
theorem sset_any {w : World} {p o c cap K V : Nat} {S : Sets} (h : SAt w p o c cap K V S) (x : Int) (h0 : 0 ≤ x) :
    Calls Try.prog 39 #[.pointer (some ⟨p, o, none⟩), .int .i64 x] w fun e w' => e = .returned (.slice (some ⟨c, (x % (K : Int)).toNat * V, none⟩) V (cap - (x % (K : Int)).toNat * V)) ∧ ∃ n, w' = w.drewN n := by
  have hw := h.ways
  have hl := h.lines
  have c1 := h.cap1
  have c2 := h.cap2
  unfold maxLen at c2
  rcases h.kv with ⟨rfl, rfl⟩ | ⟨rfl, rfl⟩
  · have e1 : x.tmod 4 = x % 4 := Int.tmod_eq_emod_of_nonneg h0
    have m1 : 0 ≤ x % 4 := by omega
    have m2 : x % 4 < 4 := by omega
    have m3 : 0 ≤ x % 4 * 2 := by omega
    have m4 : x % 4 * 2 + 2 ≤ (cap : Int) := by omega
    have m5 : x % 4 * 2 ≤ x % 4 * 2 + 2 := by omega
    go_enter Try.func39, Try.ntmps39
    go_wp2
    go_quiet (fail)
    go_wp2
    go_quiet (fail)
    go_wp2
    go_ret
    refine ⟨ret_slice ?_ ?_ ?_, _, drewN2 _ _ _⟩
    all_goals omega
  · have e1 : x.tmod 8 = x % 8 := Int.tmod_eq_emod_of_nonneg h0
    have m1 : 0 ≤ x % 8 := by omega
    have m2 : x % 8 < 8 := by omega
    have m3 : 0 ≤ x % 8 * 4 := by omega
    have m4 : x % 8 * 4 + 4 ≤ (cap : Int) := by omega
    have m5 : x % 8 * 4 ≤ x % 8 * 4 + 4 := by omega
    go_enter Try.func39, Try.ntmps39
    go_wp2
    go_quiet (fail)
    go_wp2
    go_quiet (fail)
    go_wp2
    go_ret
    refine ⟨ret_slice ?_ ?_ ?_, _, drewN2 _ _ _⟩
    all_goals omega

set_option maxHeartbeats 1000000 in
theorem sindex_at {w : World} {c o n cap : Nat} {f : Nat → Int} (hn : n ≤ 64) (hc : ∀ i, i < n → w.cell? ⟨c, o + i, none⟩ = some (.int .i64 (f i))) (x : Int) (i : Nat) (hi : i < n) (hx : f i = x) (hj : ∀ j, j < i → f j ≠ x) :
    Calls Try.prog 40 #[.slice (some ⟨c, o, none⟩) n cap, .int .i64 x] w fun e w' => e = .returned (.int .i64 i) ∧ w = w' := by
  go_enter Try.func40, Try.ntmps40
  go_wp2
  go_loop [8] (fun v => ∃ k : Nat, k ≤ i ∧ v = .int .i64 k) (fun v => n - (intOf v).toNat)
  case atStart => exact ⟨0, by omega, rfl⟩
  case round =>
    obtain ⟨k, hk, rfl⟩ := hrel
    have k1 : (k : Int) < n := by omega
    have q := hc k (by omega)
    by_cases hlt : k < i
    · have e : (x == f k) = false := by simpa using fun e => hj k hlt e.symm
      go_wp2
      go_round
      case rel => exact ⟨k + 1, by omega, by go_num⟩
      case measure => simp [intOf]; omega
    · have hki : k = i := by omega
      subst hki
      rw [hx] at q
      go_wp2
      go_ret
      exact ⟨rfl, rfl⟩

set_option maxHeartbeats 1000000 in
theorem sindex_none {w : World} {c o n cap : Nat} {f : Nat → Int} (hn : n ≤ 64) (hc : ∀ i, i < n → w.cell? ⟨c, o + i, none⟩ = some (.int .i64 (f i))) (x : Int) (hj : ∀ j, j < n → f j ≠ x) :
    Calls Try.prog 40 #[.slice (some ⟨c, o, none⟩) n cap, .int .i64 x] w fun e w' => e = .returned (.int .i64 (-1)) ∧ w = w' := by
  go_enter Try.func40, Try.ntmps40
  go_wp2
  go_loop [8] (fun v => ∃ k : Nat, k ≤ n ∧ v = .int .i64 k) (fun v => n - (intOf v).toNat)
  case atStart => exact ⟨0, by omega, rfl⟩
  case round =>
    obtain ⟨k, hk, rfl⟩ := hrel
    by_cases hlt : k < n
    · have k1 : (k : Int) < n := by omega
      have q := hc k (by omega)
      have e : (x == f k) = false := by simpa using fun e => hj k hlt e.symm
      go_wp2
      go_round
      case rel => exact ⟨k + 1, by omega, by go_num⟩
      case measure => simp [intOf]; omega
    · have hki : k = n := by omega
      subst hki
      go_wp2
      go_ret
      exact ⟨rfl, rfl⟩

theorem SAt.cells {w : World} {p o c cap K V : Nat} {S : Sets} (h : SAt w p o c cap K V S) {k : Nat} (hk : k < K) : ∀ i, i < V → w.cell? ⟨c, k * V + i, none⟩ = some (.int .i64 (wy (S k) i)) := fun i hi => by
  have hlt : k * V + i < K * V := by
    have : (k + 1) * V ≤ K * V := Nat.mul_le_mul_right _ hk
    rw [Nat.add_mul, Nat.one_mul] at this; omega
  rw [h.row.cell hlt]
  have e1 : (k * V + i) / V = k := by
    rw [Nat.mul_comm, Nat.mul_add_div (by omega), Nat.div_eq_of_lt hi, Nat.add_zero]
  have e2 : (k * V + i) % V = i := by
    rw [Nat.mul_comm, Nat.mul_add_mod, Nat.mod_eq_of_lt hi]
  unfold tg
  rw [e1, e2]
theorem SAt.set_lt {w : World} {p o c cap K V : Nat} {S : Sets} (h : SAt w p o c cap K V S) (x : Int) : (x % (K : Int)).toNat < K ∧ V ≤ 64 := by
  have : 0 < K ∧ V ≤ 64 := by rcases h.kv with ⟨rfl, rfl⟩ | ⟨rfl, rfl⟩ <;> omega
  have h2 := Int.emod_lt_of_pos x (b := (K : Int)) (by omega)
  omega

/-- What 'at' tells. -/
def atV (S : Sets) (K : Nat) (x : Int) : Int := if 0 ≤ x then pl (S (x % (K : Int)).toNat) x else -1

set_option maxRecDepth 10000 in
set_option maxHeartbeats 1000000 in
theorem sat_any {w : World} {p o c cap K V : Nat} {S : Sets} (h : SAt w p o c cap K V S) (x : Int) (h1 : x < 9223372036854775808) :
    Calls Try.prog 30 #[.pointer (some ⟨p, o, none⟩), .int .i64 x] w fun e w' => e = .returned (.int .i64 (atV S K x)) ∧ ∃ n, w' = w.drewN n := by
  by_cases h0 : 0 ≤ x
  · have hv : atV S K x = pl (S (x % (K : Int)).toNat) x := if_pos h0
    rw [hv]
    clear hv
    obtain ⟨hk, hV⟩ := h.set_lt x
    have hset := sset_any h x h0
    generalize (x % (K : Int)).toNat = k at *
    by_cases hm : x ∈ S k
    · obtain ⟨i1, i2, i3⟩ := idxOf_first hm h0
      rw [pl_yes hm]
      have hlen := h.ok.len k
      go_enter Try.func30, Try.ntmps30
      go_wp2_with (first
        | (go_at_call 39; refine hset.mono ?_; rintro e wq ⟨rfl, nq, rfl⟩)
        | (go_at_call 40; refine (sindex_at hV ((h.drewN nq).cells hk) _ _ (by omega) i2 i3).mono ?_; rintro e wq ⟨rfl, rfl⟩))
      go_ret
      exact ⟨rfl, _, rfl⟩
    · rw [pl_no hm]
      go_enter Try.func30, Try.ntmps30
      go_wp2_with (first
        | (go_at_call 39; refine hset.mono ?_; rintro e wq ⟨rfl, nq, rfl⟩)
        | (go_at_call 40; refine (sindex_none hV ((h.drewN nq).cells hk) _ (fun j _ => wy_not hm h0 j)).mono ?_; rintro e wq ⟨rfl, rfl⟩))
      go_ret
      exact ⟨rfl, _, rfl⟩
  · have hv : -1 = atV S K x := (if_neg h0).symm
    go_enter Try.func30, Try.ntmps30
    go_wp2
    go_ret
    exact ⟨rfl, 0, rfl⟩
end Go.Proofs.Ytjfdjlinjghddaa

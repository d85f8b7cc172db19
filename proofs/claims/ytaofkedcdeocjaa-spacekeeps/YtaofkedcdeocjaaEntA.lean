/-
  Package entry: Pack, Unpack, Raw.
-/
import Derived.Test.YtaofkedcdeocjaaRows
import Derived.Test.YtaofkedcdeocjaaEntM
import Derived.WalkKit
import Derived.ProofKit
import Derived.OpenShut
import Derived.Outline
namespace Go.Proofs.Ytaofkedcdeocjaa
open Go.ChangeShapes Go.WideShapes Go.ChangeAt Go.RowKit


theorem packV_bits (a u g : Bool) (f : Int) (h1 : 0 ≤ f) (h2 : f < 1099511627776) :
    let x0 := bits .or .u64 1 (f * 4096)
    let x1 := if a then bits .or .u64 x0 2 else x0
    let x2 := if u then bits .or .u64 x1 4 else x1
    (if g then bits .or .u64 x2 256 else x2) = packV a u g f := by
  have e0 : bits .or .u64 1 (f * 4096) = f * 4096 + 1 := by
    obtain ⟨n, rfl⟩ := Int.eq_ofNat_of_zero_le h1
    have e := bits_or_u64_nat 1 (n * 4096) (by omega) (by omega)
    have e1 : 1 ||| n * 4096 = n * 4096 + 1 := by
      rw [Nat.or_comm, show (1 : Nat) = 2 ^ 0 from rfl, or_pow _ _ (by simp; omega)]
    rw [e1] at e
    rw [show (n : Int) * 4096 = ((n * 4096 : Nat) : Int) by omega, show (1 : Int) = ((1 : Nat) : Int) from rfl, e]
    omega
  cases a <;> cases u <;> cases g <;> simp only [e0, packV, one, if_true, if_false, Bool.false_eq_true]
  all_goals
    try rw [int_or_pow (f * 4096 + 1) 1 2 rfl (by omega) (by omega) (by omega) (by omega)]
    try rw [int_or_pow (f * 4096 + 1) 2 4 rfl (by omega) (by omega) (by omega) (by omega)]
    try rw [int_or_pow (f * 4096 + 1) 8 256 rfl (by omega) (by omega) (by omega) (by omega)]
    try rw [int_or_pow (f * 4096 + 1 + 2) 2 4 rfl (by omega) (by omega) (by omega) (by omega)]
    try rw [int_or_pow (f * 4096 + 1 + 2) 8 256 rfl (by omega) (by omega) (by omega) (by omega)]
    try rw [int_or_pow (f * 4096 + 1 + 4) 8 256 rfl (by omega) (by omega) (by omega) (by omega)]
    try rw [int_or_pow (f * 4096 + 1 + 2 + 4) 8 256 rfl (by omega) (by omega) (by omega) (by omega)]
    omega

theorem ret_pair {k j : IntKind} {a b c : Int} (h : a = b) : Ending.returned (.tuple #[.int k a, .int j c]) = .returned (.tuple #[.int k b, .int j c]) := by rw [h]

set_option maxHeartbeats 400000 in
theorem pack_ok (a u g : Bool) (f : Int) (w : World) (h1 : 0 ≤ f) (h2 : f < 1099511627776) :
    Calls Try.prog 86 #[.agg #[.bool true, .bool a, .bool u, .bool g, .int .i64 f]] w fun e w' => e = .returned (.tuple #[.int .u64 (packV a u g f), .int .i64 0]) ∧ w' = w.alloc (.cells #[.bool true, .bool a, .bool u, .bool g, .int .i64 f] 110) := by
  have H : Hid _ := packV_bits a u g f h1 h2
  cases a <;> cases u <;> cases g
  all_goals
    go_enter Try.func86, Try.ntmps86
    go_wp2
    go_ret2
    refine ⟨ret_pair ?_, rfl⟩
    simpa only [if_true, if_false, Bool.false_eq_true] using H.out

set_option maxHeartbeats 400000 in
theorem pack_no (p a u g : Bool) (f : Int) (w : World) (h : p = false ∨ f < 0 ∨ 1099511627775 < f) :
    Calls Try.prog 86 #[.agg #[.bool p, .bool a, .bool u, .bool g, .int .i64 f]] w fun e w' => e = .returned (.tuple #[.int .u64 0, .int .i64 1]) ∧ w' = w.alloc (.cells #[.bool p, .bool a, .bool u, .bool g, .int .i64 f] 110) := by
  cases p
  · clear h
    go_enter Try.func86, Try.ntmps86
    go_wp2
    go_ret2
    exact ⟨rfl, rfl⟩
  · by_cases hf : f < 0
    · clear h
      go_enter Try.func86, Try.ntmps86
      go_wp2
      go_ret2
      exact ⟨rfl, rfl⟩
    · have hf2 : 1099511627775 < f := by rcases h with h | h | h; cases h; omega; exact h
      clear h
      go_enter Try.func86, Try.ntmps86
      go_wp2
      go_ret2
      exact ⟨rfl, rfl⟩


end Go.Proofs.Ytaofkedcdeocjaa

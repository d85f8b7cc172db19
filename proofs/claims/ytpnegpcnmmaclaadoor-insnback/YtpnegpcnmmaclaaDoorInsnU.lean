/-
  penumbraplay.Insn.
-/
import Derived.Test.YtpnegpcnmmaclaaDoorInsnT
import Derived.Deep.CutBlock
namespace Go.Proofs.YtpnegpcnmmaclaaDoor
open Go.ChangeShapes Go.WideShapes Go.ChangeAt Go.RowKit

def play0 (op a b n : Int) : Ins :=
  if op % 7 = 0 then ⟨1, a % 8, 0, n % 65536⟩ else if op % 7 = 1 then ⟨2, a % 8, b % 8, 0⟩ else if op % 7 = 2 then ⟨3, a % 8, b % 8, n % 65536⟩ else if op % 7 = 3 then ⟨4, a % 8, b % 8, n % 65536⟩
  else if op % 7 = 4 then ⟨5, 0, b % 8, n % 65536⟩ else if op % 7 = 5 then ⟨6, a % 8, 0, n % 24⟩ else ⟨7, 0, 0, 1 + n % 9⟩
def playP (op a b n how : Int) : Ins :=
  if how % 40 = 36 then { play0 op a b n with op := op } else if how % 40 = 37 then { play0 op a b n with a := a } else if how % 40 = 38 then { play0 op a b n with b := b } else if how % 40 = 39 then { play0 op a b n with n := n } else play0 op a b n

def zeros4 : Array Value := #[.int .i64 0, .int .i64 0, .int .i64 0, .int .i64 0]
set_option maxRecDepth 100000 in
set_option maxHeartbeats 2000000 in
theorem play_any (op a b n how : Int) (w : World) :
    Calls Tryd.prog 14 #[.int .i64 op, .int .i64 a, .int .i64 b, .int .i64 n, .int .i64 how] w fun e w' => e = .returned (insV (playP op a b n how)) ∧ Below w.heap.size w w' := by
  have o0 := Int.emod_nonneg op (b := 7) (by omega)
  have o1 := Int.emod_lt_of_pos op (b := 7) (by omega)
  have n0 := Int.emod_nonneg n (b := 9) (by omega)
  have n1 := Int.emod_lt_of_pos n (b := 9) (by omega)
  obtain ⟨x, hx⟩ : ∃ x, Hid (play0 op a b n = x) := ⟨_, rfl⟩
  obtain ⟨y, hy⟩ : ∃ y, Hid (playP op a b n how = y) := ⟨_, rfl⟩
  rw [hy.out]
  go_enter Tryd.func14, Tryd.ntmps14
  go_upto_block 0 with (go_at_call 16; refine (within_any _ _ _ (by decide) (by decide)).mono ?_; rintro e wq ⟨rfl, rfl⟩)
  go_cut [15, 16, 17, 19] (fun _ _ _ _ wx => Hid (wx = (w.alloc (.cells #[.int .i64 0, .int .i64 0, .int .i64 0, .int .i64 0] 32)).alloc (.cells #[.int .i64 x.op, .int .i64 x.a, .int .i64 x.b, .int .i64 x.n] 32)))
  case first =>
    rcases (by omega : op % 7 = 0 ∨ op % 7 = 1 ∨ op % 7 = 2 ∨ op % 7 = 3 ∨ op % 7 = 4 ∨ op % 7 = 5 ∨ op % 7 = 6) with h | h | h | h | h | h | h
    all_goals
      go_wp2_with (go_at_call 16; refine (within_any _ _ _ (by decide) (by decide)).mono ?_; rintro e wq ⟨rfl, rfl⟩)
      go_meet
      show _ = _
      rw [← hx.out]; simp only [play0, h, Int.reduceEq, if_false, if_true]
  case rest =>
  have hcut' := hcut.out
  subst hcut'
  go_upto_block 1 with (go_at_call 16; refine (within_any _ _ _ (by decide) (by decide)).mono ?_; rintro e wq ⟨rfl, rfl⟩)
  have e : y = if how % 40 = 36 then { x with op := op } else if how % 40 = 37 then { x with a := a } else if how % 40 = 38 then { x with b := b } else if how % 40 = 39 then { x with n := n } else x := by
    rw [← hy.out]; unfold playP; rw [hx.out]
  have E : Hid (y = _) := e
  clear e
  go_cut [18] (fun _ wx => Hid (wx = (w.alloc (.cells #[.int .i64 0, .int .i64 0, .int .i64 0, .int .i64 0] 32)).alloc (.cells #[.int .i64 y.op, .int .i64 y.a, .int .i64 y.b, .int .i64 y.n] 32)))
  case first =>
    rcases (by omega : how % 40 = 36 ∨ how % 40 = 37 ∨ how % 40 = 38 ∨ how % 40 = 39 ∨ (how % 40 ≠ 36 ∧ how % 40 ≠ 37 ∧ how % 40 ≠ 38 ∧ how % 40 ≠ 39)) with h | h | h | h | ⟨h1, h2, h3, h4⟩
    · go_wp2_with fail
      go_meet
      show _ = _
      rw [E.out, if_pos h]
    · go_wp2_with fail
      go_meet
      show _ = _
      rw [E.out, if_neg (by omega), if_pos h]
    · go_wp2_with fail
      go_meet
      show _ = _
      rw [E.out, if_neg (by omega), if_neg (by omega), if_pos h]
    · go_wp2_with fail
      go_meet
      show _ = _
      rw [E.out, if_neg (by omega), if_neg (by omega), if_neg (by omega), if_pos h]
    · have h1' : (how % 40 == 36) = false := by simpa using h1
      have h2' : (how % 40 == 37) = false := by simpa using h2
      have h3' : (how % 40 == 38) = false := by simpa using h3
      have h4' : (how % 40 == 39) = false := by simpa using h4
      go_wp2_with fail
      go_meet
      show _ = _
      rw [E.out, if_neg h1, if_neg h2, if_neg h3, if_neg h4]
  case rest =>
  have hcut' := hcut.out
  subst hcut'
  go_wp2_with fail
  refine bodyPost_ret (v := .agg #[.int .i64 y.op, .int .i64 y.a, .int .i64 y.b, .int .i64 y.n]) (by simp [results, Tryd.results14, go_sem]) rfl ⟨rfl, ((Below.refl _ w).alloc (Nat.le_refl _) _).alloc (by simp) _⟩
end Go.Proofs.YtpnegpcnmmaclaaDoor

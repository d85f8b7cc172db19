/-
  What each call of package pool that only reads comes to: one contract a function.
-/
import Derived.Test.YtaofkedcdeocjaaMemF
import Derived.LoopTactic
namespace Go.Proofs.Ytaofkedcdeocjaa
open Go.ChangeShapes Go.WideShapes Go.ChangeAt Go.RowKit

/-- A pool lies at p, its memory at b; frame i has R i references. -/
structure PoolAt (w : World) (p b : Nat) (R : Nat → Int) : Prop where
  row : w.rowIs p 102 65 (fun i => if i = 0 then .pointer (some ⟨b, 0, none⟩) else .int .i64 (R (i - 1)))

namespace PoolAt
variable {w w' : World} {p b c : Nat} {s : MS} {R : Nat → Int}
theorem touch {S : Nat → Prop} (h : PoolAt w p b R) (t : Touch S w w') (hs : ¬ S p) : PoolAt w' p b R := ⟨t.row h.row hs⟩
theorem drew (h : PoolAt w p b R) : PoolAt w.drew p b R := ⟨h.row⟩
theorem drewN (h : PoolAt w p b R) (n : Nat) : PoolAt (w.drewN n) p b R := ⟨h.row⟩
theorem neb (h : PoolAt w p b R) (m : MemAt w b c s) : p ≠ b := by
  obtain ⟨_, ht⟩ := m.top
  exact rowIs_ne h.row ht (by decide)
theorem nec (h : PoolAt w p b R) (m : MemAt w b c s) : p ≠ c := by
  obtain ⟨_, _, _, hr, _⟩ := m.row
  exact rowIs_ne h.row hr (by decide)
theorem top (h : PoolAt w p b R) : w.cell? ⟨p, 0, none⟩ = some (.pointer (some ⟨b, 0, none⟩)) := h.row.cell (i := 0) (by omega)
theorem ref (h : PoolAt w p b R) {i : Nat} (hi : i < 64) : w.cell? ⟨p, 1 + i, none⟩ = some (.int .i64 (R i)) := by
  have := h.row.cell (i := 1 + i) (by omega)
  rw [if_neg (by omega), show 1 + i - 1 = i by omega] at this
  exact this
theorem set (h : PoolAt w p b R) (i : Nat) (x : Int) : PoolAt (w.setCell ⟨p, 1 + i, none⟩ (.int .i64 x)) p b (fun j => if j = i then x else R j) := by
  refine ⟨(h.row.set (1 + i) _).congr fun j _ => ?_⟩
  by_cases e : j = 1 + i
  · rw [if_pos e, if_neg (by omega), if_pos (by omega)]
  · rw [if_neg e]
    by_cases e0 : j = 0
    · rw [if_pos e0, if_pos e0]
    · rw [if_neg e0, if_neg e0, if_neg (by omega)]
end PoolAt

/-- References of any number. -/
def rf (R : Nat → Int) (f : Int) : Int := if 0 ≤ f ∧ f < 64 then R f.toNat else 0
/-- .. turned at one frame. -/
def rset (R : Nat → Int) (f : Int) (x : Int) : Nat → Int := fun j => if j = f.toNat then x else R j

/-- How many of the first k frames from 15 on are free. -/
def cnt (C : Nat → Int) : Nat → Nat
  | 0 => 0
  | k + 1 => cnt C k + if C (15 + k) = 0 then 1 else 0
theorem cnt_le (C : Nat → Int) (k : Nat) : cnt C k ≤ k := by
  induction k with
  | zero => exact Nat.le_refl _
  | succ k ih => unfold cnt; split <;> omega
/-- How many can be taken. -/
def MS.left (s : MS) : Nat := cnt s.C (s.n - 15)

/-- A pool's cells, at first. -/
def poolZ (v : Value) : Array Value := #[v] ++ Array.replicate 64 (.int .i64 0)
theorem poolZ_get (v : Value) (i : Nat) (h : i < 65) : (poolZ v)[i]? = some (if i = 0 then v else .int .i64 0) := by
  unfold poolZ
  by_cases e : i = 0
  · subst e
    rw [Array.getElem?_append_left (by simp)]; rfl
  · rw [Array.getElem?_append_right (by simp; omega), Array.getElem?_replicate, if_neg e, if_pos (by simp; omega)]
theorem poolZ_size (v : Value) : (poolZ v).size = 65 := by unfold poolZ; simp

set_option maxHeartbeats 400000 in
theorem pnew_any {w : World} (b : Nat) :
    Calls Try.prog 11 #[.pointer (some ⟨b, 0, none⟩)] w fun e w' => e = .returned (.pointer (some ⟨w.heap.size, 0, none⟩)) ∧ PoolAt w' w.heap.size b (fun _ => 0) ∧ Touch Nil w w' ∧ w'.heap.size = w.heap.size + 1 := by
  have hrow : (w.alloc (.cells (poolZ (.pointer (some ⟨b, 0, none⟩))) 102)).rowIs w.heap.size 102 65 (fun i => if i = 0 then .pointer (some ⟨b, 0, none⟩) else .int .i64 0) := by
    have := World.rowIs_alloc w (poolZ (.pointer (some ⟨b, 0, none⟩))) 102 (fun i => if i = 0 then .pointer (some ⟨b, 0, none⟩) else .int .i64 0) (fun i hi => poolZ_get _ _ (by rwa [poolZ_size] at hi))
    rwa [poolZ_size] at this
  go_enter Try.func11, Try.ntmps11
  go_wp2
  first
  | (refine Eq.mpr (congrArg (Oper.upon _ _ _ _ _) (a₂ := Result.ok (Next.value (.agg (poolZ (.pointer (some ⟨b, 0, none⟩))))) w) (by kernel_rfl)) ?_
     go_wp2
     go_ret
     exact ⟨rfl, ⟨hrow⟩, (Touch.refl Nil w).alloc _, by simp⟩)
  | (go_ret
     refine ⟨rfl, ⟨?_⟩, (Touch.refl Nil w).alloc _, by simp⟩
     exact Eq.mpr (congrArg (fun a => World.rowIs (w.alloc (.cells a 102)) w.heap.size 102 65 (fun i => if i = 0 then .pointer (some ⟨b, 0, none⟩) else .int .i64 0)) (a₂ := poolZ (.pointer (some ⟨b, 0, none⟩))) (by kernel_rfl)) hrow)

set_option maxHeartbeats 400000 in
theorem pfree_any {w : World} {p b c : Nat} {s : MS} {R : Nat → Int} (h : PoolAt w p b R) (m : MemAt w b c s) (f : Int) :
    Calls Try.prog 52 #[.pointer (some ⟨p, 0, none⟩), .int .i64 f] w fun e w' => e = .returned (.bool (s.cls f == 0)) ∧ w = w' := by
  have h0 := h.top
  go_enter Try.func52, Try.ntmps52
  go_wp2_with (go_at_call 67; refine (class_any m _).mono ?_; rintro e wq ⟨rfl, rfl⟩)
  go_ret
  exact ⟨rfl, rfl⟩

set_option maxHeartbeats 400000 in
theorem prefs_any {w : World} {p b : Nat} {R : Nat → Int} (h : PoolAt w p b R) (f : Int) :
    Calls Try.prog 110 #[.pointer (some ⟨p, 0, none⟩), .int .i64 f] w fun e w' => e = .returned (.int .i64 (rf R f)) ∧ w = w' := by
  by_cases h1 : f < 0
  · have hr : 0 = rf R f := by unfold rf; rw [if_neg (by omega)]
    go_enter Try.func110, Try.ntmps110
    go_wp2
    go_ret
    exact ⟨rfl, rfl⟩
  · by_cases h2 : 64 ≤ f
    · have hr : 0 = rf R f := by unfold rf; rw [if_neg (by omega)]
      go_enter Try.func110, Try.ntmps110
      go_wp2
      go_ret
      exact ⟨rfl, rfl⟩
    · have hr : R f.toNat = rf R f := by unfold rf; rw [if_pos (by omega)]
      have hc := h.ref (i := f.toNat) (by omega)
      have h3 : 0 ≤ f := by omega
      have h4 : f < 64 := by omega
      go_enter Try.func110, Try.ntmps110
      go_wp2
      go_ret
      exact ⟨rfl, rfl⟩

set_option maxHeartbeats 400000 in
theorem ptaken_any {w : World} {p b : Nat} {R : Nat → Int} (h : PoolAt w p b R) (f : Int) :
    Calls Try.prog 91 #[.pointer (some ⟨p, 0, none⟩), .int .i64 f] w fun e w' => e = .returned (.bool (decide (0 < rf R f))) ∧ w = w' := by
  go_enter Try.func91, Try.ntmps91
  go_wp2_with (go_at_call 110; refine (prefs_any h _).mono ?_; rintro e wq ⟨rfl, rfl⟩)
  go_ret
  exact ⟨rfl, rfl⟩

theorem MS.cls_at (s : MS) (k : Nat) (h : k < s.n) : s.cls (k : Int) = s.C k := by
  have : s.hasF (k : Int) = true := (s.hasF_iff _).2 (by omega)
  simp [MS.cls, this]

set_option maxHeartbeats 1000000 in
theorem pleft_any {w : World} {p b c : Nat} {s : MS} {R : Nat → Int} (h : PoolAt w p b R) (m : MemAt w b c s) :
    Calls Try.prog 12 #[.pointer (some ⟨p, 0, none⟩)] w fun e w' => e = .returned (.int .i64 s.left) ∧ w = w' := by
  have h0 := h.top
  have hle := m.le
  go_enter Try.func12, Try.ntmps12
  go_wp2
  go_loop [3, 4] (fun n f => ∃ k : Nat, k ≤ s.n - 15 ∧ n = .int .i64 (cnt s.C k) ∧ f = .int .i64 (15 + (k : Int))) (fun _ f => s.n - (intOf f).toNat)
  case atStart => exact ⟨0, by omega, rfl, rfl⟩
  case round =>
    obtain ⟨k, hk, rfl, rfl⟩ := hrel
    have hcl := cnt_le s.C k
    by_cases hlt : 15 + k < s.n
    · have k1 : (15 + (k : Int)) < s.n := by omega
      have hc : s.cls (15 + (k : Int)) = s.C (15 + k) := s.cls_at _ hlt
      have hstep : cnt s.C (k + 1) = cnt s.C k + if s.C (15 + k) = 0 then 1 else 0 := rfl
      by_cases hz : s.C (15 + k) = 0
      · rw [hz] at hc
        rw [if_pos hz] at hstep
        go_wp2_with (first
          | (go_at_call 51; refine (frames_any m).mono ?_; rintro e wq ⟨rfl, rfl⟩)
          | (go_at_call 52; refine (pfree_any h m _).mono ?_; rintro e wq ⟨rfl, rfl⟩))
        go_round
        case rel => exact ⟨k + 1, by omega, by rw [hstep]; go_num, by go_num⟩
        case measure => simp [intOf]; omega
      · have hz' : (s.cls (15 + (k : Int)) == 0) = false := by rw [hc]; simpa using hz
        rw [if_neg hz] at hstep
        go_wp2_with (first
          | (go_at_call 51; refine (frames_any m).mono ?_; rintro e wq ⟨rfl, rfl⟩)
          | (go_at_call 52; refine (pfree_any h m _).mono ?_; rintro e wq ⟨rfl, rfl⟩))
        go_round
        case rel => exact ⟨k + 1, by omega, by rw [hstep]; go_num, by go_num⟩
        case measure => simp [intOf]; omega
    · have hkn : k = s.n - 15 := by omega
      have k1 : (s.n : Int) ≤ (15 + (k : Int)) := by omega
      go_wp2_with (go_at_call 51; refine (frames_any m).mono ?_; rintro e wq ⟨rfl, rfl⟩)
      go_ret
      exact ⟨ret_int (by unfold MS.left; rfl), rfl⟩
end Go.Proofs.Ytaofkedcdeocjaa

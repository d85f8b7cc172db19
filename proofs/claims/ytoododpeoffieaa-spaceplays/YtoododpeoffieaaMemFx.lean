/-
  What is read behind what is written: plain facts on memories.
-/
import Derived.Test.YtoododpeoffieaaMemD
import Derived.Sort.AtCall
import Derived.LoopTactic
import Derived.BigRegion
import Derived.Test.YtoododpeoffieaaRows2
import Derived.Test.YtoododpeoffieaaSlices
import Derived.Maps.OwnSet
import Derived.Deep.Upon
import Derived.ArgAppend
namespace Go.Proofs.Ytoododpeoffieaa

theorem MS.hasF_fresh (n : Nat) (f : Int) : (MS.fresh n).hasF f = (decide (0 ≤ f) && decide (f < n)) := rfl

theorem many_min (N : Int) : min (max N 0) 64 = (MS.many N : Int) := by unfold MS.many; omega

namespace MS

theorem hasF_of_n {s s' : MS} (h : s'.n = s.n) (f : Int) : s'.hasF f = s.hasF f := by unfold hasF; rw [h]
theorem hasW_of_n {s s' : MS} (h : s'.n = s.n) (a : Int) : s'.hasW a = s.hasW a := by unfold hasW; rw [h]
theorem mayM_of_n {s s' : MS} (h : s'.n = s.n) (f c : Int) : s'.mayM f c = s.mayM f c := by unfold mayM; rw [hasF_of_n h]
theorem zero_C (s : MS) (f : Int) : (s.zero f).C = s.C := by unfold MS.zero; split <;> rfl
theorem zero_O (s : MS) (f : Int) : (s.zero f).O = s.O := by unfold MS.zero; split <;> rfl
theorem copy_C (s : MS) (f t : Int) : (s.copy f t).C = s.C := by unfold MS.copy; split <;> rfl
theorem copy_O (s : MS) (f t : Int) : (s.copy f t).O = s.O := by unfold MS.copy; split <;> rfl
theorem write_C (s : MS) (f t : Int) : (s.write f t).C = s.C := by unfold MS.write; split <;> rfl
theorem write_O (s : MS) (f t : Int) : (s.write f t).O = s.O := by unfold MS.write; split <;> rfl
theorem mark_W (s : MS) (f c o : Int) : (s.mark f c o).W = s.W := by unfold MS.mark; split <;> rfl

theorem cls_of {s s' : MS} (h : s'.n = s.n) (hC : s'.C = s.C) (f : Int) : s'.cls f = s.cls f := by unfold cls; rw [hasF_of_n h, hC]
theorem own_of {s s' : MS} (h : s'.n = s.n) (hC : s'.O = s.O) (f : Int) : s'.own f = s.own f := by unfold own; rw [hasF_of_n h, hC]
theorem rd_of {s s' : MS} (h : s'.n = s.n) (hC : s'.W = s.W) (a : Int) : s'.rd a = s.rd a := by unfold rd; rw [hasW_of_n h, hC]

theorem rd_write (s : MS) (a x b : Int) (h : s.hasW a = true) : (s.write a x).rd b = if b = a then x else s.rd b := by
  have h1 := (s.hasW_iff a).1 h
  unfold rd
  rw [hasW_of_n (s.write_n a x)]
  by_cases e : b = a
  · subst e; simp [h, MS.write]
  · rw [if_neg e]
    by_cases hb : s.hasW b = true
    · have h2 := (s.hasW_iff b).1 hb
      simp only [hb, if_true, MS.write, h]
      rw [if_neg (by omega)]
    · simp [hb]
theorem rd_zero (s : MS) (f b : Int) (h : s.hasF f = true) (hb : 0 ≤ b) : (s.zero f).rd b = if b / 8 = f then 0 else s.rd b := by
  have h1 := (s.hasF_iff f).1 h
  unfold rd
  rw [hasW_of_n (s.zero_n f)]
  by_cases hw : s.hasW b = true
  · simp only [hw, if_true, MS.zero, h]
    by_cases e : b / 8 = f
    · rw [if_pos e, if_pos (by omega)]
    · rw [if_neg e, if_neg (by omega)]
  · simp [hw]
theorem rd_copy (s : MS) (f t b : Int) (h : s.hasF f = true) (ht : s.hasF t = true) (hb : 0 ≤ b) : (s.copy f t).rd b = if b / 8 = t then s.rd (8 * f + b % 8) else s.rd b := by
  have h1 := (s.hasF_iff f).1 h
  have h2 := (s.hasF_iff t).1 ht
  unfold rd
  rw [hasW_of_n (s.copy_n f t)]
  by_cases e : b / 8 = t
  · have w1 : s.hasW b = true := (s.hasW_iff b).2 (by omega)
    have w2 : s.hasW (8 * f + b % 8) = true := (s.hasW_iff _).2 (by omega)
    simp only [w1, w2, if_true, MS.copy, h, ht, and_self, e]
    rw [if_pos (by omega), show f.toNat * 8 + b.toNat % 8 = (8 * f + b % 8).toNat by omega]
  · rw [if_neg e]
    by_cases hw : s.hasW b = true
    · simp only [hw, if_true, MS.copy, h, ht, and_self]
      rw [if_neg (by omega)]
    · simp [hw]
theorem cls_mark (s : MS) (f c o g : Int) (h : s.mayM f c = true) : (s.mark f c o).cls g = if g = f then c else s.cls g := by
  have hf : s.hasF f = true := by simp only [MS.mayM, Bool.and_eq_true] at h; exact h.1.1
  have h1 := (s.hasF_iff f).1 hf
  unfold cls
  rw [hasF_of_n (s.mark_n f c o)]
  by_cases e : g = f
  · subst e; simp [hf, MS.mark, h]
  · rw [if_neg e]
    by_cases hb : s.hasF g = true
    · have h2 := (s.hasF_iff g).1 hb
      simp only [hb, if_true, MS.mark, h]
      rw [if_neg (by omega)]
    · simp [hb]
theorem own_mark (s : MS) (f c o g : Int) (h : s.mayM f c = true) : (s.mark f c o).own g = if g = f then o else s.own g := by
  have hf : s.hasF f = true := by simp only [MS.mayM, Bool.and_eq_true] at h; exact h.1.1
  have h1 := (s.hasF_iff f).1 hf
  unfold own
  rw [hasF_of_n (s.mark_n f c o)]
  by_cases e : g = f
  · subst e; simp [hf, MS.mark, h]
  · rw [if_neg e]
    by_cases hb : s.hasF g = true
    · have h2 := (s.hasF_iff g).1 hb
      simp only [hb, if_true, MS.mark, h]
      rw [if_neg (by omega)]
    · simp [hb]
theorem rd_fresh (n : Nat) (b : Int) : (fresh n).rd b = 0 := by unfold rd fresh; split <;> rfl
theorem mayM_mk (s : MS) (f c : Int) (h : s.hasF f = true) (h0 : 0 ≤ c) (h1 : c ≤ 5) : s.mayM f c = true := by simp [MS.mayM, h, h0, h1]
end MS

end Go.Proofs.Ytoododpeoffieaa
/-
  What each call of package pool that only reads comes to: one contract a function.
-/
namespace Go.Proofs.Ytoododpeoffieaa
open Go.ChangeShapes Go.WideShapes Go.ChangeAt Go.RowKit

/-- A pool lies at p, its memory at b; frame i has R i references. -/
structure PoolAt (w : World) (p b : Nat) (R : Nat → Int) : Prop where
  row : w.rowIs p 91 65 (fun i => if i = 0 then .pointer (some ⟨b, 0, none⟩) else .int .i64 (R (i - 1)))

namespace PoolAt
variable {w w' : World} {p b c : Nat} {s : MS} {R : Nat → Int}
theorem touch {S : Nat → Prop} (h : PoolAt w p b R) (t : Touch S w w') (hs : ¬ S p) : PoolAt w' p b R := ⟨t.row h.row hs⟩
theorem drew (h : PoolAt w p b R) : PoolAt w.drew p b R := ⟨h.row⟩
theorem drewN (h : PoolAt w p b R) (n : Nat) : PoolAt (w.drewN n) p b R := ⟨h.row⟩
theorem neb (h : PoolAt w p b R) (m : MemAt w b c s) : p ≠ b := by
  obtain ⟨_, ht⟩ := m.top
  exact rowIs_ne h.row ht (by decide)
theorem nec (h : PoolAt w p b R) (m : MemAt w b c s) : p ≠ c := by
  obtain ⟨_, _, _, hr, _⟩ := m.row
  exact rowIs_ne h.row hr (by decide)
theorem top (h : PoolAt w p b R) : w.cell? ⟨p, 0, none⟩ = some (.pointer (some ⟨b, 0, none⟩)) := h.row.cell (i := 0) (by omega)
theorem ref (h : PoolAt w p b R) {i : Nat} (hi : i < 64) : w.cell? ⟨p, 1 + i, none⟩ = some (.int .i64 (R i)) := by
  have := h.row.cell (i := 1 + i) (by omega)
  rw [if_neg (by omega), show 1 + i - 1 = i by omega] at this
  exact this
theorem set (h : PoolAt w p b R) (i : Nat) (x : Int) : PoolAt (w.setCell ⟨p, 1 + i, none⟩ (.int .i64 x)) p b (fun j => if j = i then x else R j) := by
  refine ⟨(h.row.set (1 + i) _).congr fun j _ => ?_⟩
  by_cases e : j = 1 + i
  · rw [if_pos e, if_neg (by omega), if_pos (by omega)]
  · rw [if_neg e]
    by_cases e0 : j = 0
    · rw [if_pos e0, if_pos e0]
    · rw [if_neg e0, if_neg e0, if_neg (by omega)]
end PoolAt

/-- References of any number. -/
def rf (R : Nat → Int) (f : Int) : Int := if 0 ≤ f ∧ f < 64 then R f.toNat else 0
/-- .. turned at one frame. -/
def rset (R : Nat → Int) (f : Int) (x : Int) : Nat → Int := fun j => if j = f.toNat then x else R j

/-- How many of the first k frames from 15 on are free. -/
def cnt (C : Nat → Int) : Nat → Nat
  | 0 => 0
  | k + 1 => cnt C k + if C (15 + k) = 0 then 1 else 0
theorem cnt_le (C : Nat → Int) (k : Nat) : cnt C k ≤ k := by
  induction k with
  | zero => exact Nat.le_refl _
  | succ k ih => unfold cnt; split <;> omega
/-- How many can be taken. -/
def MS.left (s : MS) : Nat := cnt s.C (s.n - 15)

/-- A pool's cells, at first. -/
def poolZ (v : Value) : Array Value := #[v] ++ Array.replicate 64 (.int .i64 0)
theorem poolZ_get (v : Value) (i : Nat) (h : i < 65) : (poolZ v)[i]? = some (if i = 0 then v else .int .i64 0) := by
  unfold poolZ
  by_cases e : i = 0
  · subst e
    rw [Array.getElem?_append_left (by simp)]; rfl
  · rw [Array.getElem?_append_right (by simp; omega), Array.getElem?_replicate, if_neg e, if_pos (by simp; omega)]
theorem poolZ_size (v : Value) : (poolZ v).size = 65 := by unfold poolZ; simp

set_option maxHeartbeats 400000 in
theorem pnew_any {w : World} (b : Nat) :
    Calls Try.prog 11 #[.pointer (some ⟨b, 0, none⟩)] w fun e w' => e = .returned (.pointer (some ⟨w.heap.size, 0, none⟩)) ∧ PoolAt w' w.heap.size b (fun _ => 0) ∧ Touch Nil w w' ∧ w'.heap.size = w.heap.size + 1 := by
  have hrow : (w.alloc (.cells (poolZ (.pointer (some ⟨b, 0, none⟩))) 91)).rowIs w.heap.size 91 65 (fun i => if i = 0 then .pointer (some ⟨b, 0, none⟩) else .int .i64 0) := by
    have := World.rowIs_alloc w (poolZ (.pointer (some ⟨b, 0, none⟩))) 91 (fun i => if i = 0 then .pointer (some ⟨b, 0, none⟩) else .int .i64 0) (fun i hi => poolZ_get _ _ (by rwa [poolZ_size] at hi))
    rwa [poolZ_size] at this
  go_enter Try.func11, Try.ntmps11
  go_wp2
  first
  | (refine Eq.mpr (congrArg (Oper.upon _ _ _ _ _) (a₂ := Result.ok (Next.value (.agg (poolZ (.pointer (some ⟨b, 0, none⟩))))) w) (by kernel_rfl)) ?_
     go_wp2
     go_ret
     exact ⟨rfl, ⟨hrow⟩, (Touch.refl Nil w).alloc _, by simp⟩)
  | (go_ret
     refine ⟨rfl, ⟨?_⟩, (Touch.refl Nil w).alloc _, by simp⟩
     exact Eq.mpr (congrArg (fun a => World.rowIs (w.alloc (.cells a 91)) w.heap.size 91 65 (fun i => if i = 0 then .pointer (some ⟨b, 0, none⟩) else .int .i64 0)) (a₂ := poolZ (.pointer (some ⟨b, 0, none⟩))) (by kernel_rfl)) hrow)

set_option maxHeartbeats 400000 in
theorem pfree_any {w : World} {p b c : Nat} {s : MS} {R : Nat → Int} (h : PoolAt w p b R) (m : MemAt w b c s) (f : Int) :
    Calls Try.prog 63 #[.pointer (some ⟨p, 0, none⟩), .int .i64 f] w fun e w' => e = .returned (.bool (s.cls f == 0)) ∧ w = w' := by
  have h0 := h.top
  go_enter Try.func63, Try.ntmps63
  go_wp2_with (go_at_call 36; refine (class_any m _).mono ?_; rintro e wq ⟨rfl, rfl⟩)
  go_ret
  exact ⟨rfl, rfl⟩

set_option maxHeartbeats 400000 in
theorem prefs_any {w : World} {p b : Nat} {R : Nat → Int} (h : PoolAt w p b R) (f : Int) :
    Calls Try.prog 78 #[.pointer (some ⟨p, 0, none⟩), .int .i64 f] w fun e w' => e = .returned (.int .i64 (rf R f)) ∧ w = w' := by
  by_cases h1 : f < 0
  · have hr : 0 = rf R f := by unfold rf; rw [if_neg (by omega)]
    go_enter Try.func78, Try.ntmps78
    go_wp2
    go_ret
    exact ⟨rfl, rfl⟩
  · by_cases h2 : 64 ≤ f
    · have hr : 0 = rf R f := by unfold rf; rw [if_neg (by omega)]
      go_enter Try.func78, Try.ntmps78
      go_wp2
      go_ret
      exact ⟨rfl, rfl⟩
    · have hr : R f.toNat = rf R f := by unfold rf; rw [if_pos (by omega)]
      have hc := h.ref (i := f.toNat) (by omega)
      have h3 : 0 ≤ f := by omega
      have h4 : f < 64 := by omega
      go_enter Try.func78, Try.ntmps78
      go_wp2
      go_ret
      exact ⟨rfl, rfl⟩

set_option maxHeartbeats 400000 in
theorem ptaken_any {w : World} {p b : Nat} {R : Nat → Int} (h : PoolAt w p b R) (f : Int) :
    Calls Try.prog 69 #[.pointer (some ⟨p, 0, none⟩), .int .i64 f] w fun e w' => e = .returned (.bool (decide (0 < rf R f))) ∧ w = w' := by
  go_enter Try.func69, Try.ntmps69
  go_wp2_with (go_at_call 78; refine (prefs_any h _).mono ?_; rintro e wq ⟨rfl, rfl⟩)
  go_ret
  exact ⟨rfl, rfl⟩

theorem MS.cls_at (s : MS) (k : Nat) (h : k < s.n) : s.cls (k : Int) = s.C k := by
  have : s.hasF (k : Int) = true := (s.hasF_iff _).2 (by omega)
  simp [MS.cls, this]

set_option maxHeartbeats 1000000 in
theorem pleft_any {w : World} {p b c : Nat} {s : MS} {R : Nat → Int} (h : PoolAt w p b R) (m : MemAt w b c s) :
    Calls Try.prog 38 #[.pointer (some ⟨p, 0, none⟩)] w fun e w' => e = .returned (.int .i64 s.left) ∧ w = w' := by
  have h0 := h.top
  have hle := m.le
  go_enter Try.func38, Try.ntmps38
  go_wp2
  go_loop [3, 4] (fun n f => ∃ k : Nat, k ≤ s.n - 15 ∧ n = .int .i64 (cnt s.C k) ∧ f = .int .i64 (15 + (k : Int))) (fun _ f => s.n - (intOf f).toNat)
  case atStart => exact ⟨0, by omega, rfl, rfl⟩
  case round =>
    obtain ⟨k, hk, rfl, rfl⟩ := hrel
    have hcl := cnt_le s.C k
    by_cases hlt : 15 + k < s.n
    · have k1 : (15 + (k : Int)) < s.n := by omega
      have hc : s.cls (15 + (k : Int)) = s.C (15 + k) := s.cls_at _ hlt
      have hstep : cnt s.C (k + 1) = cnt s.C k + if s.C (15 + k) = 0 then 1 else 0 := rfl
      by_cases hz : s.C (15 + k) = 0
      · rw [hz] at hc
        rw [if_pos hz] at hstep
        go_wp2_with (first
          | (go_at_call 32; refine (frames_any m).mono ?_; rintro e wq ⟨rfl, rfl⟩)
          | (go_at_call 63; refine (pfree_any h m _).mono ?_; rintro e wq ⟨rfl, rfl⟩))
        go_round
        case rel => exact ⟨k + 1, by omega, by rw [hstep]; go_num, by go_num⟩
        case measure => simp [intOf]; omega
      · have hz' : (s.cls (15 + (k : Int)) == 0) = false := by rw [hc]; simpa using hz
        rw [if_neg hz] at hstep
        go_wp2_with (first
          | (go_at_call 32; refine (frames_any m).mono ?_; rintro e wq ⟨rfl, rfl⟩)
          | (go_at_call 63; refine (pfree_any h m _).mono ?_; rintro e wq ⟨rfl, rfl⟩))
        go_round
        case rel => exact ⟨k + 1, by omega, by rw [hstep]; go_num, by go_num⟩
        case measure => simp [intOf]; omega
    · have hkn : k = s.n - 15 := by omega
      have k1 : (s.n : Int) ≤ (15 + (k : Int)) := by omega
      go_wp2_with (go_at_call 32; refine (frames_any m).mono ?_; rintro e wq ⟨rfl, rfl⟩)
      go_ret
      exact ⟨ret_int (by unfold MS.left; rfl), rfl⟩
end Go.Proofs.Ytoododpeoffieaa
/-
  What each call of package pool that writes comes to: one contract a function.
-/
namespace Go.Proofs.Ytoododpeoffieaa
open Go.ChangeShapes Go.WideShapes Go.ChangeAt Go.RowKit

theorem rf_pos {R : Nat → Int} {f : Int} (h : 0 < rf R f) : 0 ≤ f ∧ f < 64 ∧ rf R f = R f.toNat := by
  unfold rf at h ⊢
  by_cases e : 0 ≤ f ∧ f < 64
  · rw [if_pos e]; exact ⟨e.1, e.2, rfl⟩
  · rw [if_neg e] at h; omega
theorem rf_rset (R : Nat → Int) (f x g : Int) (hf : 0 ≤ f) (h64 : f < 64) : rf (rset R f x) g = if g = f then x else rf R g := by
  unfold rf rset
  by_cases e : g = f
  · subst e; simp [hf, h64]
  · rw [if_neg e]
    by_cases hg : 0 ≤ g ∧ g < 64
    · rw [if_pos hg, if_pos hg, if_neg (by omega)]
    · rw [if_neg hg, if_neg hg]
/-- .. one more. -/
def rshare (R : Nat → Int) (f : Int) : Nat → Int := if 0 < rf R f then rset R f (rf R f + 1) else R
/-- .. one less. -/
def rgive (R : Nat → Int) (f : Int) : Nat → Int := if 0 < rf R f then rset R f (rf R f - 1) else R
/-- The memory behind it. -/
def MS.given (s : MS) (R : Nat → Int) (f : Int) : MS := if rf R f = 1 then (s.zero f).mark f 0 (-1) else s
theorem MS.given_n (s : MS) (R : Nat → Int) (f : Int) : (s.given R f).n = s.n := by
  unfold MS.given; split
  · rw [MS.mark_n, MS.zero_n]
  · rfl



set_option maxHeartbeats 1000000 in
theorem pgive_any {w : World} {p b c : Nat} {s : MS} {R : Nat → Int} (h : PoolAt w p b R) (m : MemAt w b c s) (f : Int) (hb : rf R f < 9223372036854775807) :
    Calls Try.prog 48 #[.pointer (some ⟨p, 0, none⟩), .int .i64 f] w fun e w' => e = .returned (.bool (decide (0 < rf R f))) ∧ PoolAt w' p b (rgive R f) ∧ MemAt w' b c (s.given R f) ∧ Touch (fun x => x = p ∨ x = c) w w' := by
  by_cases h1 : 0 < rf R f
  · obtain ⟨g0, g1, hr⟩ := rf_pos h1
    have hpb := h.neb m
    have hpc := h.nec m
    have hd : decide (0 < rf R f) = true := by simpa using h1
    have he : rgive R f = rset R f (rf R f - 1) := if_pos h1
    have hs : PoolAt _ p b (rset R f (rf R f - 1)) := (h.set f.toNat (rf R f - 1)).drew
    have ht : Touch (fun x => x = p ∨ x = c) w (w.setCell ⟨p, 1 + f.toNat, none⟩ (.int .i64 (rf R f - 1))).drew := ((Touch.refl _ _).setCell (Or.inl rfl) _).drew
    have hm : MemAt (w.setCell ⟨p, 1 + f.toNat, none⟩ (.int .i64 (rf R f - 1))).drew b c s := m.touch (((Touch.refl (· = p) _).setCell rfl _).drew) (Ne.symm hpb) (Ne.symm hpc)
    rw [hd, he]
    have hc := h.ref (i := f.toNat) (by omega)
    rw [← hr] at hc
    have hfz := h.row.frozen (1 + f.toNat)
    have hc2 := hs.ref (i := f.toNat) (by omega)
    have hc2' : rset R f (rf R f - 1) f.toNat = rf R f - 1 := by simp [rset]
    rw [hc2'] at hc2
    have ht2 := hs.top
    by_cases hx : rf R f = 1
    · have hg : s.given R f = (s.zero f).mark f 0 (-1) := if_pos hx
      rw [hg]
      rw [hx] at hs ht hm hc hc2 ht2 hd ⊢
      clear hc2' he h1 hg hr
      go_enter Try.func48, Try.ntmps48
      go_wp2_with (go_at_call 69; refine (ptaken_any h _).mono ?_; rintro e wq ⟨rfl, rfl⟩)
      go_region
      have hs' : PoolAt (w.setCell ⟨p, 1 + f.toNat, none⟩ (.int .i64 0)).drew p b _ := hs
      have hm' : MemAt (w.setCell ⟨p, 1 + f.toNat, none⟩ (.int .i64 0)).drew b c s := hm
      have ht' : Touch (fun x => x = p ∨ x = c) w (w.setCell ⟨p, 1 + f.toNat, none⟩ (.int .i64 0)).drew := ht
      have hc2' : (w.setCell ⟨p, 1 + f.toNat, none⟩ (.int .i64 0)).drew.cell? _ = some (.int .i64 0) := hc2
      have ht2' : (w.setCell ⟨p, 1 + f.toNat, none⟩ (.int .i64 0)).drew.cell? _ = _ := ht2
      clear hs hm ht hc2 ht2
      generalize (w.setCell ⟨p, 1 + f.toNat, none⟩ (.int .i64 0)).drew = w1 at *
      go_wp2_with (first
        | (go_at_call 70; refine (zero_any hm' _).mono ?_; rintro e w2 ⟨hx2, hM2, hT2⟩; subst hx2; have hP2 := hs'.touch hT2 hpc; have ht3 := hP2.top)
        | (go_at_call 60; refine (mark_any hM2 _ _ _).mono ?_; rintro e w3 ⟨hx3, hM3, hT3⟩; subst hx3))
      go_ret
      exact ⟨rfl, hP2.touch hT3 hpc, hM3, (ht'.trans (hT2.mono fun _ _ e => Or.inr e)).trans (hT3.mono fun _ _ e => Or.inr e)⟩
    · have hg : s.given R f = s := if_neg hx
      rw [hg]
      have hne : (rf R f - 1 == 0) = false := by simp; omega
      clear hc2' he hg hr
      go_enter Try.func48, Try.ntmps48
      go_wp2_with (go_at_call 69; refine (ptaken_any h _).mono ?_; rintro e wq ⟨rfl, rfl⟩)
      go_region
      generalize (w.setCell ⟨p, 1 + f.toNat, none⟩ (.int .i64 (rf R f - 1))).drew = w1 at *
      go_wp2
      go_ret
      exact ⟨rfl, hs, hm, ht⟩
  · have hd : decide (0 < rf R f) = false := by simpa using h1
    have he : rgive R f = R := if_neg h1
    have hg : s.given R f = s := if_neg (by omega)
    rw [hd, he, hg]
    go_enter Try.func48, Try.ntmps48
    go_wp2_with (go_at_call 69; refine (ptaken_any h _).mono ?_; rintro e wq ⟨rfl, rfl⟩)
    go_ret
    exact ⟨rfl, h, m, Touch.refl _ _⟩

/-- Frame f is the least that is free, from 15 on. -/
structure Least (s : MS) (f : Nat) : Prop where
  lo : 15 ≤ f
  hi : f < s.n
  free : s.C f = 0
  none : ∀ g, 15 ≤ g → g < f → s.C g ≠ 0
/-- None is free. -/
def NoneFree (s : MS) : Prop := ∀ g, 15 ≤ g → g < s.n → s.C g ≠ 0

theorem least_below (s : MS) : ∀ k, (∃ f, Least s f) ∨ ∀ g, 15 ≤ g → g < k → g < s.n → s.C g ≠ 0 := by
  intro k
  induction k with
  | zero => right; intro g _ h; omega
  | succ k ih =>
    rcases ih with h | h
    · exact Or.inl h
    · by_cases hk : 15 ≤ k ∧ k < s.n ∧ s.C k = 0
      · exact Or.inl ⟨k, hk.1, hk.2.1, hk.2.2, fun g h1 h2 => h g h1 h2 (by omega)⟩
      · right
        intro g h1 h2 h3
        by_cases e : g = k
        · subst e; exact fun e => hk ⟨h1, h3, e⟩
        · exact h g h1 (by omega) h3
theorem least_or (s : MS) : (∃ f, Least s f) ∨ NoneFree s := by
  rcases least_below s s.n with h | h
  · exact Or.inl h
  · exact Or.inr fun g h1 h2 => h g h1 h2 h2

set_option maxHeartbeats 400000 in
theorem ptake_class {w : World} (p : Nat) (k o : Int) (h1 : k ≠ 1) (h2 : k ≠ 2) :
    Calls Try.prog 64 #[.pointer (some ⟨p, 0, none⟩), .int .i64 k, .int .i64 o] w fun e w' => e = .returned (.tuple #[.int .i64 0, .bool false]) ∧ w = w' := by
  have e1 : (k != 1) = true := by simpa using h1
  have e2 : (k != 2) = true := by simpa using h2
  go_enter Try.func64, Try.ntmps64
  go_wp2
  go_ret2
  exact ⟨rfl, rfl⟩

set_option maxHeartbeats 1000000 in
theorem ptake_none {w : World} {p b c : Nat} {s : MS} {R : Nat → Int} (h : PoolAt w p b R) (m : MemAt w b c s) (k o : Int) (hN : NoneFree s) :
    Calls Try.prog 64 #[.pointer (some ⟨p, 0, none⟩), .int .i64 k, .int .i64 o] w fun e w' => e = .returned (.tuple #[.int .i64 0, .bool false]) ∧ w = w' := by
  by_cases hk : k = 1 ∨ k = 2
  · have h0 := h.top
    have hle := m.le
    rcases hk with rfl | rfl
    all_goals
      go_enter Try.func64, Try.ntmps64
      go_wp2
      go_loop [8] (fun f => ∃ k : Nat, k ≤ s.n - 15 ∧ f = .int .i64 (15 + (k : Int))) (fun f => s.n - (intOf f).toNat)
      case atStart => exact ⟨0, by omega, rfl⟩
      case round =>
        obtain ⟨k, hk, rfl⟩ := hrel
        by_cases hlt : 15 + k < s.n
        · have k1 : 15 + (k : Int) < s.n := by omega
          have hc : s.cls (15 + (k : Int)) = s.C (15 + k) := s.cls_at _ hlt
          have hz : (s.cls (15 + (k : Int)) == 0) = false := by rw [hc]; simpa using hN (15 + k) (by omega) hlt
          go_wp2_with (first
            | (go_at_call 32; refine (frames_any m).mono ?_; rintro e wq ⟨rfl, rfl⟩)
            | (go_at_call 63; refine (pfree_any h m _).mono ?_; rintro e wq ⟨rfl, rfl⟩))
          go_round
          case rel => exact ⟨k + 1, by omega, by go_num⟩
          case measure => simp [intOf]; omega
        · have k1 : (s.n : Int) ≤ 15 + (k : Int) := by omega
          go_wp2_with (go_at_call 32; refine (frames_any m).mono ?_; rintro e wq ⟨rfl, rfl⟩)
          go_ret2
          exact ⟨rfl, rfl⟩
  · exact ptake_class p k o (by omega) (by omega)

set_option maxHeartbeats 1000000 in
theorem ptake_least {w : World} {p b c : Nat} {s : MS} {R : Nat → Int} (h : PoolAt w p b R) (m : MemAt w b c s) (k o : Int) (hk : k = 1 ∨ k = 2) {f : Nat} (hL : Least s f) :
    Calls Try.prog 64 #[.pointer (some ⟨p, 0, none⟩), .int .i64 k, .int .i64 o] w fun e w' => e = .returned (.tuple #[.int .i64 f, .bool true]) ∧ PoolAt w' p b (rset R f 1) ∧ MemAt w' b c (s.mark f k o) ∧ Touch (fun x => x = p ∨ x = c) w w' := by
  have h0 := h.top
  have hle := m.le
  have hpc := h.nec m
  obtain ⟨l1, l2, l3, l4⟩ := hL
  rcases hk with rfl | rfl
  all_goals
    go_enter Try.func64, Try.ntmps64
    go_wp2
    go_loop [8] (fun i => ∃ k : Nat, 15 + k ≤ f ∧ i = .int .i64 (15 + (k : Int))) (fun i => s.n - (intOf i).toNat)
    case atStart => exact ⟨0, by omega, rfl⟩
    case round =>
      obtain ⟨k, hk, rfl⟩ := hrel
      have k1 : 15 + (k : Int) < s.n := by omega
      have hc : s.cls (15 + (k : Int)) = s.C (15 + k) := s.cls_at (15 + k) (by omega)
      by_cases hlt : 15 + k < f
      · have hz : (s.cls (15 + (k : Int)) == 0) = false := by rw [hc]; simpa using l4 (15 + k) (by omega) hlt
        go_wp2_with (first
          | (go_at_call 32; refine (frames_any m).mono ?_; rintro e wq ⟨rfl, rfl⟩)
          | (go_at_call 63; refine (pfree_any h m _).mono ?_; rintro e wq ⟨rfl, rfl⟩))
        go_round
        case rel => exact ⟨k + 1, by omega, by go_num⟩
        case measure => simp [intOf]; omega
      · have hkf : f = 15 + k := by omega
        subst hkf
        rw [l3] at hc
        have k2 : 15 + (k : Int) < 64 := by omega
        go_wp2_with (first
          | (go_at_call 32; refine (frames_any m).mono ?_; rintro e wq ⟨rfl, rfl⟩)
          | (go_at_call 63; refine (pfree_any h m _).mono ?_; rintro e wq ⟨rfl, rfl⟩)
          | (go_at_call 60; refine (mark_any m _ _ _).mono ?_; rintro e w2 ⟨hx2, hM2, hT2⟩; subst hx2; have hP2 := h.touch hT2 hpc; have hc2 := hP2.ref (i := (15 + k)) (by omega); have hfz := hP2.row.frozen (1 + (15 + k))))
        go_ret2
        have hS := hP2.set (15 + k) 1
        have hT3 : Touch (· = p) w2 (w2.setCell ⟨p, 1 + (15 + k), none⟩ (.int .i64 1)) := (Touch.refl (· = p) w2).setCell (p := ⟨p, 1 + (15 + k), none⟩) rfl _
        exact ⟨rfl, hS, hM2.touch hT3 (Ne.symm (h.neb m)) (Ne.symm hpc), (hT2.mono fun _ _ e => Or.inr e).trans (hT3.mono fun _ _ e => Or.inl e)⟩

theorem ptake_at {w : World} {p b c : Nat} {s : MS} {R : Nat → Int} (h : PoolAt w p b R) (m : MemAt w b c s) (k o : Int) (hk : k = 1 ∨ k = 2) {f : Nat} (hL : Least s f) (F : Int) (hF : (f : Int) = F) :
    Calls Try.prog 64 #[.pointer (some ⟨p, 0, none⟩), .int .i64 k, .int .i64 o] w fun e w' => e = .returned (.tuple #[.int .i64 F, .bool true]) ∧ PoolAt w' p b (rset R F 1) ∧ MemAt w' b c (s.mark F k o) ∧ Touch (fun x => x = p ∨ x = c) w w' := by
  subst hF; exact ptake_least h m k o hk hL
end Go.Proofs.Ytoododpeoffieaa
/-
  The document's example of chapter 3.
-/
namespace Go.Proofs.Ytoododpeoffieaa
open Go.ChangeShapes Go.WideShapes Go.ChangeAt Go.RowKit

theorem least_fresh (n : Nat) (h : 15 < n) : Least (MS.fresh n) 15 := ⟨by omega, h, rfl, fun g h1 h2 => by omega⟩

theorem left_24 : ((MS.fresh (MS.many 24)).mark 15 2 0).left = 8 := by kernel_rfl
theorem least_24 : Least (MS.fresh (MS.many 24)) 15 := least_fresh _ (by decide)

end Go.Proofs.Ytoododpeoffieaa
/-
  The document's own memory (penumbraref01): one contract a function.
-/
namespace Go.Proofs.Ytoododpeoffieaa
open Go.ChangeShapes Go.WideShapes Go.ChangeAt Go.RowKit

/-- The document's memory lies at b; its words, classes, owners at cw, cc, co. -/
structure RefAt (w : World) (b cw cc co : Nat) (s : MS) : Prop where
  le : s.n ≤ 64
  bw : b ≠ cw
  bc : b ≠ cc
  bo : b ≠ co
  wc : cw ≠ cc
  wo : cw ≠ co
  co' : cc ≠ co
  top : w.rowIs b 85 3 (fun i => if i = 0 then .slice (some ⟨cw, 0, none⟩) (s.n * 8) (s.n * 8) else if i = 1 then .slice (some ⟨cc, 0, none⟩) s.n s.n else .slice (some ⟨co, 0, none⟩) s.n s.n)
  rw' : w.rowIs cw 55 (s.n * 8) (fun i => .int .u64 (s.W i))
  rc : w.rowIs cc 3 s.n (fun i => .int .i64 (s.C i))
  ro : w.rowIs co 3 s.n (fun i => .int .i64 (s.O i))

theorem RefAt.touch {S : Nat → Prop} {w w' : World} {b cw cc co : Nat} {s : MS} (h : RefAt w b cw cc co s) (t : Touch S w w') (h0 : ¬ S b) (h1 : ¬ S cw) (h2 : ¬ S cc) (h3 : ¬ S co) : RefAt w' b cw cc co s :=
  ⟨h.le, h.bw, h.bc, h.bo, h.wc, h.wo, h.co', t.row h.top h0, t.row h.rw' h1, t.row h.rc h2, t.row h.ro h3⟩
theorem RefAt.drew {w : World} {b cw cc co : Nat} {s : MS} (h : RefAt w b cw cc co s) : RefAt w.drew b cw cc co s :=
  ⟨h.le, h.bw, h.bc, h.bo, h.wc, h.wo, h.co', h.top, h.rw', h.rc, h.ro⟩

set_option maxHeartbeats 400000 in
theorem rframes_any {w : World} {b cw cc co : Nat} {s : MS} (h : RefAt w b cw cc co s) :
    Calls Try.prog 33 #[.pointer (some ⟨b, 0, none⟩)] w fun e w' => e = .returned (.int .i64 s.n) ∧ w = w' := by
  have h1 := h.top.cell (i := 1) (by omega)
  have hle := h.le
  go_enter Try.func33, Try.ntmps33
  go_wp2
  go_ret
  exact ⟨rfl, rfl⟩

set_option maxHeartbeats 400000 in
theorem rhas_any {w : World} {b cw cc co : Nat} {s : MS} (h : RefAt w b cw cc co s) (f : Int) :
    Calls Try.prog 77 #[.pointer (some ⟨b, 0, none⟩), .int .i64 f] w fun e w' => e = .returned (.bool (s.hasF f)) ∧ w = w' := by
  have h0 := h.top.cell (i := 1) (by omega)
  have hle := h.le
  by_cases h1 : 0 ≤ f
  · go_enter Try.func77, Try.ntmps77
    go_wp2
    go_ret
    exact ⟨ret_bool (by simp [MS.hasF, h1]), rfl⟩
  · go_enter Try.func77, Try.ntmps77
    go_wp2
    go_ret
    exact ⟨ret_bool (by rw [eq_comm, MS.hasF_no]; omega), rfl⟩

theorem hasW_three (s : MS) (a : Int) : (a < 0 ∧ s.hasW a = false) ∨ (0 ≤ a ∧ a < ((s.n * 8 : Nat) : Int) ∧ s.hasW a = true) ∨ (0 ≤ a ∧ ((s.n * 8 : Nat) : Int) ≤ a ∧ s.hasW a = false) := by
  by_cases h1 : a < 0
  · exact Or.inl ⟨h1, (s.hasW_no a).2 (by omega)⟩
  · by_cases h2 : a < ((s.n * 8 : Nat) : Int)
    · exact Or.inr (Or.inl ⟨by omega, h2, (s.hasW_iff a).2 (by omega)⟩)
    · exact Or.inr (Or.inr ⟨by omega, by omega, (s.hasW_no a).2 (by omega)⟩)

set_option maxHeartbeats 400000 in
theorem rread_any {w : World} {b cw cc co : Nat} {s : MS} (h : RefAt w b cw cc co s) (a : Int) :
    Calls Try.prog 35 #[.pointer (some ⟨b, 0, none⟩), .int .i64 a] w fun e w' => e = .returned (.tuple #[.int .u64 (s.rd a), .bool (s.hasW a)]) ∧ w = w' := by
  have h0 := h.top.cell (i := 0) (by omega)
  have hle := h.le
  rcases hasW_three s a with ⟨h1, hw⟩ | ⟨h1, h2, hw⟩ | ⟨h1, h2, hw⟩
  · have hr : s.rd a = 0 := by simp [MS.rd, hw]
    rw [hr, hw]
    go_enter Try.func35, Try.ntmps35
    go_wp2
    go_ret2
    exact ⟨rfl, rfl⟩
  · have hc := h.rw'.cell (i := a.toNat) (by omega)
    have hr : s.W a.toNat = s.rd a := by simp [MS.rd, hw]
    rw [hr] at hc
    rw [hw]
    go_enter Try.func35, Try.ntmps35
    go_wp2
    go_ret2
    exact ⟨rfl, rfl⟩
  · have hr : s.rd a = 0 := by simp [MS.rd, hw]
    rw [hr, hw]
    go_enter Try.func35, Try.ntmps35
    go_wp2
    go_ret2
    exact ⟨rfl, rfl⟩

theorem RefAt.write {w : World} {b cw cc co : Nat} {s : MS} (h : RefAt w b cw cc co s) (a x : Int) (hw : s.hasW a = true) : RefAt (w.setCell ⟨cw, a.toNat, none⟩ (.int .u64 x)) b cw cc co (s.write a x) := by
  have hn := s.write_n a x
  refine ⟨by rw [hn]; exact h.le, h.bw, h.bc, h.bo, h.wc, h.wo, h.co', by rw [hn]; exact h.top.setOther h.bw _, ?_, ?_, ?_⟩
  · rw [hn]
    refine (h.rw'.set _ _).congr fun i _ => ?_
    simp only [MS.write, hw, if_true]
    by_cases e : i = a.toNat
    · rw [if_pos e, if_pos e]
    · rw [if_neg e, if_neg e]
  · rw [hn, MS.write_C]; exact h.rc.setOther (Ne.symm h.wc) _
  · rw [hn, MS.write_O]; exact h.ro.setOther (Ne.symm h.wo) _

set_option maxHeartbeats 400000 in
theorem rwrite_any {w : World} {b cw cc co : Nat} {s : MS} (h : RefAt w b cw cc co s) (a x : Int) :
    Calls Try.prog 46 #[.pointer (some ⟨b, 0, none⟩), .int .i64 a, .int .u64 x] w fun e w' => e = .returned (.bool (s.hasW a)) ∧ RefAt w' b cw cc co (s.write a x) ∧ Touch (· = cw) w w' := by
  have h0 := h.top.cell (i := 0) (by omega)
  have hle := h.le
  rcases hasW_three s a with ⟨h1, hw⟩ | ⟨h1, h2, hw⟩ | ⟨h1, h2, hw⟩
  · have hr : s.write a x = s := by simp [MS.write, hw]
    rw [hr, hw]
    go_enter Try.func46, Try.ntmps46
    go_wp2
    go_ret
    exact ⟨rfl, h, Touch.refl _ _⟩
  · have hc := h.rw'.cell (i := a.toNat) (by omega)
    have hf := h.rw'.frozen a.toNat
    rw [hw]
    go_enter Try.func46, Try.ntmps46
    go_wp2
    go_ret
    exact ⟨rfl, h.write a x hw, (Touch.refl (· = cw) _).setCell rfl _⟩
  · have hr : s.write a x = s := by simp [MS.write, hw]
    rw [hr, hw]
    go_enter Try.func46, Try.ntmps46
    go_wp2
    go_ret
    exact ⟨rfl, h, Touch.refl _ _⟩

theorem RefAt.mark {w : World} {b cw cc co : Nat} {s : MS} (h : RefAt w b cw cc co s) (f k o : Int) (hm : s.mayM f k = true) :
    RefAt ((w.setCell ⟨cc, f.toNat, none⟩ (.int .i64 k)).setCell ⟨co, f.toNat, none⟩ (.int .i64 o)) b cw cc co (s.mark f k o) := by
  have hn := s.mark_n f k o
  refine ⟨by rw [hn]; exact h.le, h.bw, h.bc, h.bo, h.wc, h.wo, h.co', by rw [hn]; exact (h.top.setOther h.bc _).setOther h.bo _, ?_, ?_, ?_⟩
  · rw [hn, MS.mark_W]; exact (h.rw'.setOther h.wc _).setOther h.wo _
  · rw [hn]
    refine ((h.rc.set _ _).setOther h.co' _).congr fun i _ => ?_
    simp only [MS.mark, hm, if_true]
    by_cases e : i = f.toNat
    · rw [if_pos e, if_pos e]
    · rw [if_neg e, if_neg e]
  · rw [hn]
    refine ((h.ro.setOther (Ne.symm h.co') _).set _ _).congr fun i _ => ?_
    simp only [MS.mark, hm, if_true]
    by_cases e : i = f.toNat
    · rw [if_pos e, if_pos e]
    · rw [if_neg e, if_neg e]

set_option maxHeartbeats 1000000 in
theorem rmark_any {w : World} {b cw cc co : Nat} {s : MS} (h : RefAt w b cw cc co s) (f k o : Int) :
    Calls Try.prog 59 #[.pointer (some ⟨b, 0, none⟩), .int .i64 f, .int .i64 k, .int .i64 o] w fun e w' => e = .returned (.bool (s.mayM f k)) ∧ RefAt w' b cw cc co (s.mark f k o) ∧ Touch (fun x => x = cc ∨ x = co) w w' := by
  cases hm : s.mayM f k
  · have hr : s.mark f k o = s := by simp [MS.mark, hm]
    rw [hr]
    cases hf : s.hasF f
    · go_enter Try.func59, Try.ntmps59
      go_wp2_with (go_at_call 77; refine (rhas_any h _).mono ?_; rintro e w' ⟨rfl, rfl⟩)
      go_ret
      exact ⟨rfl, h, Touch.refl _ _⟩
    · have hk : k < 0 ∨ 5 < k := by simp [MS.mayM, hf] at hm; omega
      by_cases h1 : k < 0
      · go_enter Try.func59, Try.ntmps59
        go_wp2_with (go_at_call 77; refine (rhas_any h _).mono ?_; rintro e w' ⟨rfl, rfl⟩)
        go_ret
        exact ⟨rfl, h, Touch.refl _ _⟩
      · have h2 : 5 < k := by omega
        go_enter Try.func59, Try.ntmps59
        go_wp2_with (go_at_call 77; refine (rhas_any h _).mono ?_; rintro e w' ⟨rfl, rfl⟩)
        go_ret
        exact ⟨rfl, h, Touch.refl _ _⟩
  · have hm' := hm
    simp only [MS.mayM, Bool.and_eq_true, decide_eq_true_eq] at hm'
    obtain ⟨⟨hf, k1⟩, k2⟩ := hm'
    obtain ⟨b1, b2⟩ := (s.hasF_iff f).1 hf
    have t1 := h.top.cell (i := 1) (by omega)
    have t2 := h.top.cell (i := 2) (by omega)
    have hle := h.le
    have q8 := h.rc.cell (i := f.toNat) (by omega)
    have q9 := h.ro.cell (i := f.toNat) (by omega)
    have q9' := (h.ro.setOther (a := ⟨cc, f.toNat, none⟩) (Ne.symm h.co') (.int .i64 k)).cell (i := f.toNat) (by omega)
    have f8 := h.rc.frozen f.toNat
    have f9 := h.ro.frozen f.toNat
    simp only [show ¬ ((1 : Nat) = 0) by omega, show ¬ ((2 : Nat) = 0) by omega, show ¬ ((2 : Nat) = 1) by omega, if_false, if_true] at t1 t2
    have hne1 : cc ≠ co := h.co'
    go_enter Try.func59, Try.ntmps59
    go_wp2_with (go_at_call 77; refine (rhas_any h _).mono ?_; rintro e w' ⟨rfl, rfl⟩)
    go_region
    go_wp2
    go_ret
    exact ⟨rfl, (h.mark f k o hm).drew, (((Touch.refl (fun x => x = cc ∨ x = co) _).setCell (Or.inl rfl) _).setCell (Or.inr rfl) _).drew⟩
end Go.Proofs.Ytoododpeoffieaa
/-
  The document's own memory: making frames 0, and copying them, word by word.
-/
namespace Go.Proofs.Ytoododpeoffieaa
open Go.ChangeShapes Go.WideShapes Go.ChangeAt Go.RowKit

/-- The words of a frame, the first k of them told anew. -/
def MS.part (s : MS) (f k : Nat) (g : Nat → Int) : MS := { s with W := fun i => if f * 8 ≤ i ∧ i < f * 8 + k then g (i - f * 8) else s.W i }
theorem MS.part_zero (s : MS) (f : Nat) (g : Nat → Int) : s.part f 0 g = s := by
  cases s; simp only [MS.part, MS.mk.injEq, true_and, and_true]; funext i; rw [if_neg (by omega)]
theorem MS.part_zeroed (s : MS) (f : Int) (h : s.hasF f = true) : s.part f.toNat 8 (fun _ => 0) = s.zero f := by
  simp only [MS.part, MS.zero, h, if_true, MS.mk.injEq, true_and, and_true]; funext i
  by_cases e : i / 8 = f.toNat
  · rw [if_pos e, if_pos (by omega)]
  · rw [if_neg e, if_neg (by omega)]
theorem MS.part_copied (s : MS) (f t : Int) (h : s.hasF f = true) (ht : s.hasF t = true) : s.part t.toNat 8 (fun j => s.W (f.toNat * 8 + j)) = s.copy f t := by
  simp only [MS.part, MS.copy, h, ht, and_self, if_true, MS.mk.injEq, true_and, and_true]; funext i
  by_cases e : i / 8 = t.toNat
  · rw [if_pos e, if_pos (by omega), show i - t.toNat * 8 = i % 8 by omega]
  · rw [if_neg e, if_neg (by omega)]

theorem RefAt.part {w : World} {b cw cc co : Nat} {s : MS} {f k : Nat} {g : Nat → Int} (h : RefAt w b cw cc co (s.part f k g)) : RefAt (w.setCell ⟨cw, f * 8 + k, none⟩ (.int .u64 (g k))) b cw cc co (s.part f (k + 1) g) := by
  refine ⟨h.le, h.bw, h.bc, h.bo, h.wc, h.wo, h.co', h.top.setOther h.bw _, ?_, h.rc.setOther (Ne.symm h.wc) _, h.ro.setOther (Ne.symm h.wo) _⟩
  refine (h.rw'.set _ _).congr fun i _ => ?_
  simp only [MS.part]
  by_cases e : i = f * 8 + k
  · subst e; rw [if_pos rfl, if_pos (by omega), show f * 8 + k - f * 8 = k by omega]
  · rw [if_neg e]
    by_cases e2 : f * 8 ≤ i ∧ i < f * 8 + k
    · rw [if_pos e2, if_pos (by omega)]
    · rw [if_neg e2, if_neg (by omega)]

set_option maxHeartbeats 1000000 in
theorem rzero_any {w : World} {b cw cc co : Nat} {s : MS} (h : RefAt w b cw cc co s) (f : Int) :
    Calls Try.prog 72 #[.pointer (some ⟨b, 0, none⟩), .int .i64 f] w fun e w' => e = .returned (.bool (s.hasF f)) ∧ RefAt w' b cw cc co (s.zero f) ∧ Touch (· = cw) w w' := by
  cases hf : s.hasF f
  · have hr : s.zero f = s := by simp [MS.zero, hf]
    rw [hr]
    go_enter Try.func72, Try.ntmps72
    go_wp2
    go_loop [5] (fun i => i = .int .i64 0) (fun _ => 0)
    case atStart => rfl
    case round =>
      subst hrel
      go_wp2_with (go_at_call 77; refine (rhas_any h _).mono ?_; rintro e w' ⟨rfl, rfl⟩)
      go_ret
      exact ⟨rfl, h, Touch.refl _ _⟩
  · obtain ⟨b1, b2⟩ := (s.hasF_iff f).1 hf
    have hle := h.le
    have hp0 : RefAt w b cw cc co (s.part f.toNat 0 (fun _ => 0)) := by rw [MS.part_zero]; exact h
    go_enter Try.func72, Try.ntmps72
    go_wp2
    go_loopw [5] (fun i wr => ∃ k : Nat, k ≤ 8 ∧ i = .int .i64 k ∧ RefAt wr b cw cc co (s.part f.toNat k (fun _ => 0)) ∧ Touch (· = cw) w wr) (fun i _ => 8 - (intOf i).toNat)
    case atStart => exact ⟨0, by omega, rfl, hp0, Touch.refl _ _⟩
    case round =>
      obtain ⟨k, hk, rfl, hR, hT⟩ := hrel
      clear hp0
      have hf' : (s.part f.toNat k (fun _ => 0)).hasF f = true := hf
      by_cases hlt : k < 8
      · have h0 := hR.top.cell (i := 0) (by omega)
        have hc := hR.rw'.cell (i := (f * 8 + k).toNat) (by show _ < s.n * 8; omega)
        have hfz := hR.rw'.frozen (f * 8 + k).toNat
        have hR' := hR.part
        rw [show f.toNat * 8 + k = (f * 8 + k).toNat by omega] at hR'
        simp only [MS.part, if_true] at h0
        have k1 : (k : Int) < 8 := by omega
        go_wp2_with (go_at_call 77; refine (rhas_any hR _).mono ?_; rintro e w' ⟨rfl, rfl⟩)
        go_roundw
        case rel => exact ⟨k + 1, by omega, by go_num, hR', hT.setCell (p := ⟨cw, (f * 8 + k).toNat, none⟩) rfl _⟩
        case measure => simp [intOf]; omega
      · have hk8 : k = 8 := by omega
        subst hk8
        rw [MS.part_zeroed s f hf] at hR
        have hf'' : (s.zero f).hasF f = true := by rw [MS.hasF_of_n (s.zero_n f)]; exact hf
        go_wp2_with (go_at_call 77; refine (rhas_any hR _).mono ?_; rintro e w' ⟨rfl, rfl⟩)
        go_ret
        exact ⟨rfl, hR, hT⟩

end Go.Proofs.Ytoododpeoffieaa
/-
  The document's own memory, made.
-/
namespace Go.Proofs.Ytoododpeoffieaa
open Go.ChangeShapes Go.WideShapes Go.ChangeAt Go.RowKit

/-- Four new blocks, and a draw. -/
theorem four (w : World) (A B C S : Obj) :
    ((((w.alloc A).alloc B).alloc C).alloc S).drew.heap[w.heap.size]? = some A ∧ ((((w.alloc A).alloc B).alloc C).alloc S).drew.heap[w.heap.size + 1]? = some B ∧
    ((((w.alloc A).alloc B).alloc C).alloc S).drew.heap[w.heap.size + 2]? = some C ∧ ((((w.alloc A).alloc B).alloc C).alloc S).drew.heap[w.heap.size + 3]? = some S := by
  have e1 : (w.alloc A).heap.size = w.heap.size + 1 := Deep.nblk_alloc _ _
  have e2 : ((w.alloc A).alloc B).heap.size = w.heap.size + 2 := by rw [Deep.nblk_alloc, e1]
  have e3 : (((w.alloc A).alloc B).alloc C).heap.size = w.heap.size + 3 := by rw [Deep.nblk_alloc, e2]
  refine ⟨?_, ?_, ?_, ?_⟩
  · show ((((w.alloc A).alloc B).alloc C).alloc S).heap[_]? = _
    rw [Deep.blk_alloc_lt _ _ _ (by omega), Deep.blk_alloc_lt _ _ _ (by omega), Deep.blk_alloc_lt _ _ _ (by omega), Deep.blk_alloc_new]
  · show ((((w.alloc A).alloc B).alloc C).alloc S).heap[_]? = _
    rw [Deep.blk_alloc_lt _ _ _ (by omega), Deep.blk_alloc_lt _ _ _ (by omega), ← e1, Deep.blk_alloc_new]
  · show ((((w.alloc A).alloc B).alloc C).alloc S).heap[_]? = _
    rw [Deep.blk_alloc_lt _ _ _ (by omega), ← e2, Deep.blk_alloc_new]
  · show ((((w.alloc A).alloc B).alloc C).alloc S).heap[_]? = _
    rw [← e3, Deep.blk_alloc_new]

/-- The document's memory while its owners are told. -/
theorem RefAt.ofHeap {W : World} {b cw cc co K : Nat} (hK : K ≤ 64) (bw : b ≠ cw) (bc : b ≠ cc) (bo : b ≠ co) (wc : cw ≠ cc) (wo : cw ≠ co) (co' : cc ≠ co)
    (hS : W.heap[b]? = some (.cells #[.slice (some ⟨cw, 0, none⟩) (K * 8) (K * 8), .slice (some ⟨cc, 0, none⟩) K K, .slice (some ⟨co, 0, none⟩) K K] 85))
    (hW : W.heap[cw]? = some (.cells (madeCells #[.int .u64 0] (K * 8)) 55)) (hC : W.heap[cc]? = some (.cells (madeCells #[.int .i64 0] K) 3)) (hO : W.heap[co]? = some (.cells (madeCells #[.int .i64 0] K) 3)) :
    RefAt W b cw cc co (MS.mk' K 0) := by
  refine ⟨hK, bw, bc, bo, wc, wo, co', ⟨_, hS, rfl, ?_⟩, ⟨_, hW, size_madeCells _ _, ?_⟩, ⟨_, hC, size_madeCells _ _, ?_⟩, ⟨_, hO, size_madeCells _ _, ?_⟩⟩
  · intro i hi
    have : i = 0 ∨ i = 1 ∨ i = 2 := by omega
    rcases this with rfl | rfl | rfl <;> rfl
  · intro i hi; exact (madeCells_get _ _ _ hi).trans (by simp [MS.mk', Nat.mod_one])
  · intro i hi; exact (madeCells_get _ _ _ hi).trans (by simp [MS.mk', Nat.mod_one])
  · intro i hi; exact (madeCells_get _ _ _ hi).trans (by simp [MS.mk', Nat.mod_one])

theorem RefAt.owner {w : World} {b cw cc co K k : Nat} (h : RefAt w b cw cc co (MS.mk' K k)) : RefAt (w.setCell ⟨co, k, none⟩ (.int .i64 (-1))) b cw cc co (MS.mk' K (k + 1)) := by
  refine ⟨h.le, h.bw, h.bc, h.bo, h.wc, h.wo, h.co', h.top.setOther h.bo _, h.rw'.setOther h.wo _, h.rc.setOther h.co' _, ?_⟩
  refine (h.ro.set _ _).congr fun i _ => ?_
  simp only [MS.mk']
  by_cases e : i = k
  · subst e; rw [if_pos rfl, if_pos (by omega)]
  · rw [if_neg e]
    by_cases e2 : i < k
    · rw [if_pos e2, if_pos (by omega)]
    · rw [if_neg e2, if_neg (by omega)]
theorem RefAt.made {w : World} {b cw cc co K : Nat} (h : RefAt w b cw cc co (MS.mk' K K)) : RefAt w b cw cc co (MS.fresh K) := by
  refine ⟨h.le, h.bw, h.bc, h.bo, h.wc, h.wo, h.co', h.top, h.rw', h.rc, h.ro.congr fun i hi => ?_⟩
  have hi' : i < K := hi
  simp only [MS.mk', MS.fresh, hi', if_true]

/-- The world while the owners are told. -/
def RNewInv (w : World) (K k : Nat) (wr : World) : Prop := ∃ cw cc co, w.heap.size ≤ cw ∧ w.heap.size ≤ cc ∧ w.heap.size ≤ co ∧ RefAt wr (w.heap.size + 3) cw cc co (MS.mk' K k) ∧ Touch Nil w wr

set_option maxHeartbeats 1000000 in
theorem rnew_any (n : Int) (w : World) :
    Calls Try.prog 24 #[.int .i64 n] w fun e w' => ∃ b cw cc co, e = .returned (.pointer (some ⟨b, 0, none⟩)) ∧ w.heap.size ≤ b ∧ w.heap.size ≤ cw ∧ w.heap.size ≤ cc ∧ w.heap.size ≤ co ∧ RefAt w' b cw cc co (MS.fresh (MS.many n)) ∧ Touch Nil w w' := by
  have hle := MS.many_le n
  have hmm := many_min n
  generalize MS.many n = K at hle hmm
  have mk1 := run_make_rows (P := Try.prog) 83 55 (.int .u64 0) 1 8 (by kernel_rfl) (by kernel_rfl) ((K : Int) * 8) (K * 8) (by omega) (by omega) (by omega)
  have mk2 := run_make_rows (P := Try.prog) 22 3 (.int .i64 0) 1 8 (by kernel_rfl) (by kernel_rfl) (K : Int) K rfl (by omega) (by omega)
  simp only [Nat.mul_one] at mk1 mk2
  go_enter Try.func24, Try.ntmps24
  go_wp2
  go_region
  all_goals
    go_wp2
    go_loopw [23] (fun i wr => ∃ k : Nat, k ≤ K ∧ i = .int .i64 k ∧ RNewInv w K k wr) (fun i _ => K - (intOf i).toNat)
    case atStart =>
      first
      | exact ⟨0, by omega, rfl, w.heap.size, w.heap.size + 1, w.heap.size + 2, by omega, by omega, by omega, RefAt.ofHeap hle (by omega) (by omega) (by omega) (by omega) (by omega) (by omega) (four w _ _ _ _).2.2.2 (four w _ _ _ _).1 (four w _ _ _ _).2.1 (four w _ _ _ _).2.2.1, (((((Touch.refl Nil w).alloc _).alloc _).alloc _).alloc _).drew⟩
      | exact ⟨0, by omega, rfl, w.heap.size, w.heap.size + 2, w.heap.size + 1, by omega, by omega, by omega, RefAt.ofHeap hle (by omega) (by omega) (by omega) (by omega) (by omega) (by omega) (four w _ _ _ _).2.2.2 (four w _ _ _ _).1 (four w _ _ _ _).2.2.1 (four w _ _ _ _).2.1, (((((Touch.refl Nil w).alloc _).alloc _).alloc _).alloc _).drew⟩
      | exact ⟨0, by omega, rfl, w.heap.size + 1, w.heap.size, w.heap.size + 2, by omega, by omega, by omega, RefAt.ofHeap hle (by omega) (by omega) (by omega) (by omega) (by omega) (by omega) (four w _ _ _ _).2.2.2 (four w _ _ _ _).2.1 (four w _ _ _ _).1 (four w _ _ _ _).2.2.1, (((((Touch.refl Nil w).alloc _).alloc _).alloc _).alloc _).drew⟩
      | exact ⟨0, by omega, rfl, w.heap.size + 1, w.heap.size + 2, w.heap.size, by omega, by omega, by omega, RefAt.ofHeap hle (by omega) (by omega) (by omega) (by omega) (by omega) (by omega) (four w _ _ _ _).2.2.2 (four w _ _ _ _).2.1 (four w _ _ _ _).2.2.1 (four w _ _ _ _).1, (((((Touch.refl Nil w).alloc _).alloc _).alloc _).alloc _).drew⟩
      | exact ⟨0, by omega, rfl, w.heap.size + 2, w.heap.size, w.heap.size + 1, by omega, by omega, by omega, RefAt.ofHeap hle (by omega) (by omega) (by omega) (by omega) (by omega) (by omega) (four w _ _ _ _).2.2.2 (four w _ _ _ _).2.2.1 (four w _ _ _ _).1 (four w _ _ _ _).2.1, (((((Touch.refl Nil w).alloc _).alloc _).alloc _).alloc _).drew⟩
      | exact ⟨0, by omega, rfl, w.heap.size + 2, w.heap.size + 1, w.heap.size, by omega, by omega, by omega, RefAt.ofHeap hle (by omega) (by omega) (by omega) (by omega) (by omega) (by omega) (four w _ _ _ _).2.2.2 (four w _ _ _ _).2.2.1 (four w _ _ _ _).2.1 (four w _ _ _ _).1, (((((Touch.refl Nil w).alloc _).alloc _).alloc _).alloc _).drew⟩
    case round =>
      obtain ⟨k, hk, rfl, cw, cc, co, g1, g2, g3, hR, hT⟩ := hrel
      clear mk1 mk2
      by_cases hlt : k < K
      · have h2 := hR.top.cell (i := 2) (by omega)
        have hc := hR.ro.cell (i := k) hlt
        have hf := hR.ro.frozen k
        simp only [MS.mk', show ¬ ((2 : Nat) = 0) by omega, show ¬ ((2 : Nat) = 1) by omega, if_false] at h2
        have hR' := hR.owner
        go_wp2
        go_roundw
        case rel => exact ⟨k + 1, by omega, by go_num, cw, cc, co, g1, g2, g3, hR', hT.setNew (by show _ ≤ co; omega) _⟩
        case measure => simp [intOf]; omega
      · have hkK : k = K := by omega
        subst hkK
        go_wp2
        go_ret
        exact ⟨_, cw, cc, co, rfl, by omega, g1, g2, g3, hR.made, hT⟩
end Go.Proofs.Ytoododpeoffieaa
/-
  Maps of the call's own with int keys: what they answer, as equations.
-/
namespace Go.Proofs.Ytoododpeoffieaa
open Go.ChangeShapes Go.WideShapes Go.ChangeAt Go.RowKit Go.Maps

theorem isKeyI (f : Int) : WideAt.IsKeyLit (.int .i64 f) := trivial
theorem keyI_ne {f g : Int} (h : g ≠ f) : (Lit.int .i64 g) ≠ .int .i64 f := by
  intro e; injection e with _ e; exact h e
theorem key_I (f : Int) (h0 : 0 ≤ f) (h1 : f < 256) : keyOf Try.prog 3 (.int .i64 f) = some (.int .i64 f) := keyOf_int_mk Try.underlying3 (WalkArith.wf_i64 (by omega))
theorem lawI : Keyed Try.prog 3 := int_keyed Try.underlying3
theorem zeroB (w : World) : (zeroValue 4).run Try.prog w = .ok (.bool false) w := by kernel_rfl
theorem plainElem_bool_inv {P : Program} {e : TypeId} (he : P.underlying e = some .bool) {v : Value} {z : DataW Unit × List MemPlace} (h : plainElem P e v = some z) : ∃ a, v = .bool a ∧ z = (.lit (.bool a), []) := by
  unfold plainElem at h
  rw [he] at h
  cases v <;> simp at h
  subst h
  exact ⟨_, rfl, rfl⟩
/-- What a map of bools answers. -/
theorem lookB {w : World} {B n : Nat} {D : DataW Unit} (h : w.ownsMap Try.prog 3 (plainElem Try.prog 4) B n D) (f : Int) (h0 : 0 ≤ f) (h1 : f < 256) {x : Bool} (hx : D.atKey (.int .i64 f) (.lit (.bool false)) = .lit (.bool x)) :
    (Instr.lookup 106 (.map (some B)) (.int .i64 f) false).run Try.prog w = .ok (.bool x) w := by
  obtain ⟨v, ps, hrun, hv⟩ := h.lookup lawI Try.underlying106 (zeroB _) (plainElem_bool Try.underlying4 false) (key_I f h0 h1)
  obtain ⟨c, rfl, hc⟩ := plainElem_bool_inv Try.underlying4 hv
  simp only [Prod.mk.injEq] at hc
  have hc : c = x := by have := hx.symm.trans hc.1; simpa using this.symm
  rw [hrun, hc]
theorem lensB {w : World} {B n : Nat} {D : DataW Unit} (h : w.ownsMap Try.prog 3 (plainElem Try.prog 4) B n D) :
    (Builtin.len_ #[106] 3 #[.map (some B)]).run Try.prog w = .ok (.int .i64 (Maps.size D)) w := h.len Try.underlying106 3

end Go.Proofs.Ytoododpeoffieaa
/-
  Lists of numbers of the call's own, side by side: each in a block of its own, which alone (or a new one) is turned by one more.
-/
namespace Go.Proofs.Ytoododpeoffieaa
open Go.ChangeShapes Go.WideShapes Go.ChangeAt Go.RowKit

def nlist (l : List Int) : List Value := l.map (fun x => Value.int .i64 x)
theorem nlist_len (l : List Int) : (nlist l).length = l.length := by simp [nlist]
theorem nlist_get (l : List Int) {i : Nat} (h : i < l.length) : (nlist l)[i]? = some (.int .i64 (l.getD i 0)) := by
  simp [nlist, h, List.getD_eq_getElem?_getD]
/-- The block of an address. -/
def blkA (a : Option Addr) (k : Nat) : Prop := ∃ o, a = some ⟨k, o, none⟩
/-- It is nil, or lies in a block of its own, with its spare room. -/
def NL (w : World) (a : Option Addr) (cap : Nat) (l : List Int) : Prop :=
  (a = none ∧ cap = 0 ∧ l = []) ∨ ∃ g m f, a = some ⟨g, 0, none⟩ ∧ l.length ≤ cap ∧ cap ≤ maxLen ∧ rowHas w g 3 m f ∧ cap ≤ m ∧ ∀ i, i < l.length → f i = .int .i64 (l.getD i 0)
theorem NL.nil (w : World) : NL w none 0 [] := Or.inl ⟨rfl, rfl, rfl⟩
theorem NL.touch {w w' : World} {cap : Nat} {a : Option Addr} {l : List Int} {S : Nat → Prop} (h : NL w a cap l) (t : Touch S w w') (hs : ∀ k, blkA a k → ¬ S k) : NL w' a cap l := by
  rcases h with h | ⟨g, m, f, h1, h3, h4, h5, h6, h8⟩
  · exact Or.inl h
  · exact Or.inr ⟨g, m, f, h1, h3, h4, h5.touch t (hs g ⟨0, h1⟩), h6, h8⟩
theorem NL.lt {w : World} {cap : Nat} {a : Option Addr} {l : List Int} (h : NL w a cap l) {k : Nat} (hk : blkA a k) : k < w.heap.size := by
  obtain ⟨o, e⟩ := hk
  rcases h with ⟨h, _⟩ | ⟨g, m, f, h1, h3, h4, h5, h6, h8⟩
  · rw [h] at e; cases e
  · rw [h1] at e; cases e; exact h5.lt
theorem NL.cells {w : World} {cap : Nat} {a : Option Addr} {l : List Int} (h : NL w a cap l) : l = [] ∨ ∃ g, a = some ⟨g, 0, none⟩ ∧ g < w.heap.size ∧ ∀ i, i < l.length → w.cell? ⟨g, i, none⟩ = some (.int .i64 (l.getD i 0)) := by
  rcases h with h | ⟨g, m, f, h1, h3, h4, h5, h6, h8⟩
  · exact Or.inl h.2.2
  · exact Or.inr ⟨g, h1, h5.lt, fun i hi => by rw [h5.cell (by omega), h8 i hi]⟩
/-- One more. -/
theorem NL.app {w : World} {cap : Nat} {a : Option Addr} {l : List Int} (h : NL w a cap l) (few : l.length ≤ 1000) (x : Int) (B : Nat) (hB : w.cell? ⟨B, 0, none⟩ = some (.int .i64 x)) :
    ∃ g cap' w', (Builtin.append_ #[22, 22] 22 #[.slice a l.length cap, .slice (some ⟨B, 0, none⟩) 1 1]).run Try.prog w = .ok (.slice (some ⟨g, 0, none⟩) (l.length + 1) cap') w' ∧ NL w' (some ⟨g, 0, none⟩) cap' (l ++ [x]) ∧ Touch (fun k => blkA a k) w w' ∧ (blkA a g ∨ w.heap.size ≤ g) := by
  obtain ⟨i0, hi, hzz⟩ := Option.map_eq_some_iff.1 (show (Try.prog.info? 3).map (fun i => (i.zero, i.size, i.bytes)) = some (some (.int .i64 0), 1, 8) by kernel_rfl)
  simp only [Prod.mk.injEq] at hzz
  obtain ⟨hz0, hz1, hz2⟩ := hzz
  have ht : Try.prog.underlying 22 = some (.slice 3) := Try.underlying22
  have hnews : ∀ j u, ([.int .i64 x] : List Value)[j]? = some u → w.cell? ((⟨B, 0, none⟩ : Addr).add j) = some u := fun j u hu => by
    match j, hu with
    | 0, hu => simp at hu; subst hu; rw [Addr.add_mid]; exact hB
  have h1 : ∀ u ∈ ([.int .i64 x] : List Value), u.oneCell' = true := fun u hu => by simp at hu; subst hu; rfl
  have fin : ∀ {v' : Value} {w' : World}, w'.ownsRow w.heap.size 3 1 v' (l.length + 1) (nlist l ++ [.int .i64 x]) → ∃ g cap', v' = .slice (some ⟨g, 0, none⟩) (l.length + 1) cap' ∧ NL w' (some ⟨g, 0, none⟩) cap' (l ++ [x]) ∧ w.heap.size ≤ g := by
    intro v' w' h2
    obtain ⟨e1, e2⟩ := h2
    rcases e2 with ⟨_, e2⟩ | ⟨g, cp, cur, rfl, e3, e4, e5, e6, e7, e8⟩
    · omega
    · refine ⟨g, cp, rfl, Or.inr ⟨g, cur.size, fun i => (cur[i]?).getD (.int .i64 0), rfl, by simp; omega, e6, ?_, by omega, fun i hi => ?_⟩, e3⟩
      · exact rowHas.of ⟨cur, e4, rfl, fun i hi => by simp [hi]⟩
      · have hi' : i < (l ++ [x]).length := hi
        have e9 := nlist_get (l ++ [x]) hi'
        rw [show nlist (l ++ [x]) = nlist l ++ [.int .i64 x] by simp [nlist], ← e8, List.getElem?_take, if_pos (by simp at hi'; omega)] at e9
        simp only [Array.getElem?_toList] at e9
        show (cur[i]?).getD _ = _
        rw [e9]; rfl
  rcases h with ⟨rfl, rfl, rfl⟩ | ⟨g, m, f, rfl, h3, h4, h5, h6, h8⟩
  · obtain ⟨v', w', hr, e2, e3, _⟩ := run_append_own (P := Try.prog) w w.heap.size 22 22 3 i0 (.int .i64 0) 1 8 ht hi hz0 hz1 hz2 rfl (by decide) (.slice none 0 0) 0 [] (World.ownsRow_nil w _ _ _) ⟨B, 0, none⟩ 1 1 [.int .i64 x] rfl hnews h1 (by unfold maxLen; omega) (by omega) (Nat.le_refl _)
    obtain ⟨g, cap', rfl, hO, hg⟩ := fin e2
    exact ⟨g, cap', w', hr, hO, ⟨e3.os, e3.tape, e3.output, e3.size, fun k hk _ => e3.block k hk (by simp [Value.ownBlock])⟩, Or.inr hg⟩
  · by_cases hroom : l.length + 1 ≤ cap
    · have hsome : ∀ j, j < ([.int .i64 x] : List Value).length → (w.cell? ⟨g, 0 + l.length * i0.size + j, none⟩).isSome = true := fun j hj => by
        have e : j = 0 := by simpa using hj
        subst e
        rw [hz1, h5.cell (by omega)]; rfl
      have hr := run_append_room_cells (P := Try.prog) w 22 22 3 i0 ht hi g 0 l.length cap ⟨B, 0, none⟩ 1 1 [.int .i64 x] (by rw [hz1]; rfl) hnews h1 hroom hsome (fun j _ => h5.frozen _)
      rw [hz1, Nat.mul_one] at hr
      refine ⟨g, cap, _, hr, Or.inr ⟨g, m, _, rfl, by simp; omega, h4, h5.setCells _ _, h6, fun i hi => ?_⟩, (Touch.refl (fun k => blkA (some ⟨g, 0, none⟩) k) w).setCells ⟨0, rfl⟩ _ _, Or.inl ⟨0, rfl⟩⟩
      have hi' : i < l.length + 1 := by simpa using hi
      by_cases e : i = l.length
      · subst e
        rw [if_pos (by omega)]
        simp [List.getD_eq_getElem?_getD]
      · rw [if_neg (by omega), h8 i (by omega), List.getD_eq_getElem?_getD, List.getD_eq_getElem?_getD, List.getElem?_append_left (by omega)]
    · obtain ⟨v', w', hr, e2, e3⟩ := run_append_arg_grows (P := Try.prog) w 22 22 3 i0 (.int .i64 0) 1 8 ht hi hz0 hz1 hz2 rfl (by decide) ⟨g, 0, none⟩ l.length cap (nlist l) (by rw [nlist_len]; omega) (fun j u hu => by
          have hj : j < l.length := by
            have := (List.getElem?_eq_some_iff.1 hu).1; rwa [nlist_len] at this
          rw [nlist_get l hj] at hu
          rw [Addr.add_mid, h5.cell (by omega), Nat.zero_add, h8 j hj, hu]) ⟨B, 0, none⟩ 1 1 [.int .i64 x] rfl hnews (by omega) (by unfold maxLen; omega) (by omega)
      obtain ⟨g', cap', rfl, hO, hg⟩ := fin e2
      exact ⟨g', cap', w', hr, hO, ⟨e3.os, e3.tape, e3.output, e3.size, fun k hk _ => e3.block k hk (by simp)⟩, Or.inr hg⟩
end Go.Proofs.Ytoododpeoffieaa
/-
  Lists of pointers of the call's own, side by side: each in a block of its own, which alone (or a new one) is turned by one more.
-/
namespace Go.Proofs.Ytoododpeoffieaa
open Go.ChangeShapes Go.WideShapes Go.ChangeAt Go.RowKit

def pv (k : Nat) : Value := .pointer (some ⟨k, 0, none⟩)
def plist (l : List Nat) : List Value := l.map pv
theorem plist_len (l : List Nat) : (plist l).length = l.length := by simp [plist]
theorem plist_get (l : List Nat) {i : Nat} (h : i < l.length) : (plist l)[i]? = some (pv (l.getD i 0)) := by
  simp [plist, h, List.getD_eq_getElem?_getD]
/-- It is nil, or lies in a block of its own, with its spare room. -/
def PL (w : World) (e : TypeId) (a : Option Addr) (cap : Nat) (l : List Nat) : Prop :=
  (a = none ∧ cap = 0 ∧ l = []) ∨ ∃ g m f, a = some ⟨g, 0, none⟩ ∧ l.length ≤ cap ∧ cap ≤ maxLen ∧ rowHas w g e m f ∧ cap ≤ m ∧ ∀ i, i < l.length → f i = pv (l.getD i 0)
theorem PL.nil (w : World) (e : TypeId) : PL w e none 0 [] := Or.inl ⟨rfl, rfl, rfl⟩
theorem PL.touch {w w' : World} {e : TypeId} {cap : Nat} {a : Option Addr} {l : List Nat} {S : Nat → Prop} (h : PL w e a cap l) (t : Touch S w w') (hs : ∀ k, blkA a k → ¬ S k) : PL w' e a cap l := by
  rcases h with h | ⟨g, m, f, h1, h3, h4, h5, h6, h8⟩
  · exact Or.inl h
  · exact Or.inr ⟨g, m, f, h1, h3, h4, h5.touch t (hs g ⟨0, h1⟩), h6, h8⟩
theorem PL.lt {w : World} {e : TypeId} {cap : Nat} {a : Option Addr} {l : List Nat} (h : PL w e a cap l) {k : Nat} (hk : blkA a k) : k < w.heap.size := by
  obtain ⟨o, q⟩ := hk
  rcases h with ⟨h, _⟩ | ⟨g, m, f, h1, h3, h4, h5, h6, h8⟩
  · rw [h] at q; cases q
  · rw [h1] at q; cases q; exact h5.lt
theorem PL.cells {w : World} {e : TypeId} {cap : Nat} {a : Option Addr} {l : List Nat} (h : PL w e a cap l) : l = [] ∨ ∃ g, a = some ⟨g, 0, none⟩ ∧ g < w.heap.size ∧ l.length ≤ cap ∧ cap ≤ maxLen ∧ ∀ i, i < l.length → w.cell? ⟨g, i, none⟩ = some (pv (l.getD i 0)) := by
  rcases h with h | ⟨g, m, f, h1, h3, h4, h5, h6, h8⟩
  · exact Or.inl h.2.2
  · exact Or.inr ⟨g, h1, h5.lt, h3, h4, fun i hi => by rw [h5.cell (by omega), h8 i hi]⟩
theorem PL.caps {w : World} {e : TypeId} {cap : Nat} {a : Option Addr} {l : List Nat} (h : PL w e a cap l) : l.length ≤ cap ∧ cap ≤ maxLen := by
  rcases h with ⟨_, rfl, rfl⟩ | ⟨g, m, f, h1, h3, h4, _⟩
  · exact ⟨Nat.le_refl _, Nat.zero_le _⟩
  · exact ⟨h3, h4⟩
/-- Cut by its last one. -/
theorem PL.cut {w : World} {e : TypeId} {cap : Nat} {a : Option Addr} {l : List Nat} {x : Nat} (h : PL w e a cap (l ++ [x])) : PL w e a cap l := by
  rcases h with ⟨_, _, h⟩ | ⟨g, m, f, h1, h3, h4, h5, h6, h8⟩
  · simp at h
  · refine Or.inr ⟨g, m, f, h1, by simp at h3; omega, h4, h5, h6, fun i hi => ?_⟩
    rw [h8 i (by simp; omega), List.getD_eq_getElem?_getD, List.getD_eq_getElem?_getD, List.getElem?_append_left hi]
/-- One more. -/
theorem PL.app {w : World} {t e : TypeId} (ht : Try.prog.underlying t = some (.slice e)) (hinfo : (Try.prog.info? e).map (fun i => (i.zero, i.size, i.bytes)) = some (some (.pointer none), 1, 8)) {cap : Nat} {a : Option Addr} {l : List Nat} (h : PL w e a cap l) (few : l.length ≤ 1000) (x : Nat) (B : Nat) (hB : w.cell? ⟨B, 0, none⟩ = some (pv x)) :
    ∃ g cap' w', (Builtin.append_ #[t, t] t #[.slice a l.length cap, .slice (some ⟨B, 0, none⟩) 1 1]).run Try.prog w = .ok (.slice (some ⟨g, 0, none⟩) (l.length + 1) cap') w' ∧ PL w' e (some ⟨g, 0, none⟩) cap' (l ++ [x]) ∧ Touch (fun k => blkA a k) w w' ∧ (blkA a g ∨ w.heap.size ≤ g) := by
  obtain ⟨i0, hi, hzz⟩ := Option.map_eq_some_iff.1 hinfo
  simp only [Prod.mk.injEq] at hzz
  obtain ⟨hz0, hz1, hz2⟩ := hzz
  have hnews : ∀ j u, ([pv x] : List Value)[j]? = some u → w.cell? ((⟨B, 0, none⟩ : Addr).add j) = some u := fun j u hu => by
    match j, hu with
    | 0, hu => simp at hu; subst hu; rw [Addr.add_mid]; exact hB
  have h1 : ∀ u ∈ ([pv x] : List Value), u.oneCell' = true := fun u hu => by simp at hu; subst hu; rfl
  have fin : ∀ {v' : Value} {w' : World}, w'.ownsRow w.heap.size e 1 v' (l.length + 1) (plist l ++ [pv x]) → ∃ g cap', v' = .slice (some ⟨g, 0, none⟩) (l.length + 1) cap' ∧ PL w' e (some ⟨g, 0, none⟩) cap' (l ++ [x]) ∧ w.heap.size ≤ g := by
    intro v' w' h2
    obtain ⟨e1, e2⟩ := h2
    rcases e2 with ⟨_, e2⟩ | ⟨g, cp, cur, rfl, e3, e4, e5, e6, e7, e8⟩
    · omega
    · refine ⟨g, cp, rfl, Or.inr ⟨g, cur.size, fun i => (cur[i]?).getD (.pointer none), rfl, by simp; omega, e6, ?_, by omega, fun i hi => ?_⟩, e3⟩
      · exact rowHas.of ⟨cur, e4, rfl, fun i hi => by simp [hi]⟩
      · have hi' : i < (l ++ [x]).length := hi
        have e9 := plist_get (l ++ [x]) hi'
        rw [show plist (l ++ [x]) = plist l ++ [pv x] by simp [plist], ← e8, List.getElem?_take, if_pos (by simp at hi'; omega)] at e9
        simp only [Array.getElem?_toList] at e9
        show (cur[i]?).getD _ = _
        rw [e9]; rfl
  rcases h with ⟨rfl, rfl, rfl⟩ | ⟨g, m, f, rfl, h3, h4, h5, h6, h8⟩
  · obtain ⟨v', w', hr, e2, e3, _⟩ := run_append_own (P := Try.prog) w w.heap.size t t e i0 (.pointer none) 1 8 ht hi hz0 hz1 hz2 rfl (by decide) (.slice none 0 0) 0 [] (World.ownsRow_nil w _ _ _) ⟨B, 0, none⟩ 1 1 [pv x] rfl hnews h1 (by unfold maxLen; omega) (by omega) (Nat.le_refl _)
    obtain ⟨g, cap', rfl, hO, hg⟩ := fin e2
    exact ⟨g, cap', w', hr, hO, ⟨e3.os, e3.tape, e3.output, e3.size, fun k hk _ => e3.block k hk (by simp [Value.ownBlock])⟩, Or.inr hg⟩
  · by_cases hroom : l.length + 1 ≤ cap
    · have hsome : ∀ j, j < ([pv x] : List Value).length → (w.cell? ⟨g, 0 + l.length * i0.size + j, none⟩).isSome = true := fun j hj => by
        have ej : j = 0 := by simpa using hj
        subst ej
        rw [hz1, h5.cell (by omega)]; rfl
      have hr := run_append_room_cells (P := Try.prog) w t t e i0 ht hi g 0 l.length cap ⟨B, 0, none⟩ 1 1 [pv x] (by rw [hz1]; rfl) hnews h1 hroom hsome (fun j _ => h5.frozen _)
      rw [hz1, Nat.mul_one] at hr
      refine ⟨g, cap, _, hr, Or.inr ⟨g, m, _, rfl, by simp; omega, h4, h5.setCells _ _, h6, fun i hi => ?_⟩, (Touch.refl (fun k => blkA (some ⟨g, 0, none⟩) k) w).setCells ⟨0, rfl⟩ _ _, Or.inl ⟨0, rfl⟩⟩
      have hi' : i < l.length + 1 := by simpa using hi
      by_cases ei : i = l.length
      · subst ei
        rw [if_pos (by omega)]
        simp [List.getD_eq_getElem?_getD]
      · rw [if_neg (by omega), h8 i (by omega), List.getD_eq_getElem?_getD, List.getD_eq_getElem?_getD, List.getElem?_append_left (by omega)]
    · obtain ⟨v', w', hr, e2, e3⟩ := run_append_arg_grows (P := Try.prog) w t t e i0 (.pointer none) 1 8 ht hi hz0 hz1 hz2 rfl (by decide) ⟨g, 0, none⟩ l.length cap (plist l) (by rw [plist_len]; omega) (fun j u hu => by
          have hj : j < l.length := by
            have := (List.getElem?_eq_some_iff.1 hu).1; rwa [plist_len] at this
          rw [plist_get l hj] at hu
          rw [Addr.add_mid, h5.cell (by omega), Nat.zero_add, h8 j hj, hu]) ⟨B, 0, none⟩ 1 1 [pv x] rfl hnews (by omega) (by unfold maxLen; omega) (by omega)
      obtain ⟨g', cap', rfl, hO, hg⟩ := fin e2
      exact ⟨g', cap', w', hr, hO, ⟨e3.os, e3.tape, e3.output, e3.size, fun k hk _ => e3.block k hk (by simp)⟩, Or.inr hg⟩
end Go.Proofs.Ytoododpeoffieaa

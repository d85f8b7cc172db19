/-
  What is read behind what is written: plain facts on memories.
-/
import Derived.Test.YtpffilnebffijaaMemD
import Derived.Sort.AtCall
namespace Go.Proofs.Ytpffilnebffijaa

theorem MS.hasF_fresh (n : Nat) (f : Int) : (MS.fresh n).hasF f = (decide (0 ≤ f) && decide (f < n)) := rfl

theorem many_min (N : Int) : min (max N 0) 64 = (MS.many N : Int) := by unfold MS.many; omega

namespace MS

theorem hasF_of_n {s s' : MS} (h : s'.n = s.n) (f : Int) : s'.hasF f = s.hasF f := by unfold hasF; rw [h]
theorem hasW_of_n {s s' : MS} (h : s'.n = s.n) (a : Int) : s'.hasW a = s.hasW a := by unfold hasW; rw [h]
theorem mayM_of_n {s s' : MS} (h : s'.n = s.n) (f c : Int) : s'.mayM f c = s.mayM f c := by unfold mayM; rw [hasF_of_n h]
theorem zero_C (s : MS) (f : Int) : (s.zero f).C = s.C := by unfold MS.zero; split <;> rfl
theorem zero_O (s : MS) (f : Int) : (s.zero f).O = s.O := by unfold MS.zero; split <;> rfl
theorem copy_C (s : MS) (f t : Int) : (s.copy f t).C = s.C := by unfold MS.copy; split <;> rfl
theorem copy_O (s : MS) (f t : Int) : (s.copy f t).O = s.O := by unfold MS.copy; split <;> rfl
theorem write_C (s : MS) (f t : Int) : (s.write f t).C = s.C := by unfold MS.write; split <;> rfl
theorem write_O (s : MS) (f t : Int) : (s.write f t).O = s.O := by unfold MS.write; split <;> rfl
theorem mark_W (s : MS) (f c o : Int) : (s.mark f c o).W = s.W := by unfold MS.mark; split <;> rfl

theorem cls_of {s s' : MS} (h : s'.n = s.n) (hC : s'.C = s.C) (f : Int) : s'.cls f = s.cls f := by unfold cls; rw [hasF_of_n h, hC]
theorem own_of {s s' : MS} (h : s'.n = s.n) (hC : s'.O = s.O) (f : Int) : s'.own f = s.own f := by unfold own; rw [hasF_of_n h, hC]
theorem rd_of {s s' : MS} (h : s'.n = s.n) (hC : s'.W = s.W) (a : Int) : s'.rd a = s.rd a := by unfold rd; rw [hasW_of_n h, hC]

theorem rd_write (s : MS) (a x b : Int) (h : s.hasW a = true) : (s.write a x).rd b = if b = a then x else s.rd b := by
  have h1 := (s.hasW_iff a).1 h
  unfold rd
  rw [hasW_of_n (s.write_n a x)]
  by_cases e : b = a
  · subst e; simp [h, MS.write]
  · rw [if_neg e]
    by_cases hb : s.hasW b = true
    · have h2 := (s.hasW_iff b).1 hb
      simp only [hb, if_true, MS.write, h]
      rw [if_neg (by omega)]
    · simp [hb]
theorem rd_zero (s : MS) (f b : Int) (h : s.hasF f = true) (hb : 0 ≤ b) : (s.zero f).rd b = if b / 8 = f then 0 else s.rd b := by
  have h1 := (s.hasF_iff f).1 h
  unfold rd
  rw [hasW_of_n (s.zero_n f)]
  by_cases hw : s.hasW b = true
  · simp only [hw, if_true, MS.zero, h]
    by_cases e : b / 8 = f
    · rw [if_pos e, if_pos (by omega)]
    · rw [if_neg e, if_neg (by omega)]
  · simp [hw]
theorem rd_copy (s : MS) (f t b : Int) (h : s.hasF f = true) (ht : s.hasF t = true) (hb : 0 ≤ b) : (s.copy f t).rd b = if b / 8 = t then s.rd (8 * f + b % 8) else s.rd b := by
  have h1 := (s.hasF_iff f).1 h
  have h2 := (s.hasF_iff t).1 ht
  unfold rd
  rw [hasW_of_n (s.copy_n f t)]
  by_cases e : b / 8 = t
  · have w1 : s.hasW b = true := (s.hasW_iff b).2 (by omega)
    have w2 : s.hasW (8 * f + b % 8) = true := (s.hasW_iff _).2 (by omega)
    simp only [w1, w2, if_true, MS.copy, h, ht, and_self, e]
    rw [if_pos (by omega), show f.toNat * 8 + b.toNat % 8 = (8 * f + b % 8).toNat by omega]
  · rw [if_neg e]
    by_cases hw : s.hasW b = true
    · simp only [hw, if_true, MS.copy, h, ht, and_self]
      rw [if_neg (by omega)]
    · simp [hw]
theorem cls_mark (s : MS) (f c o g : Int) (h : s.mayM f c = true) : (s.mark f c o).cls g = if g = f then c else s.cls g := by
  have hf : s.hasF f = true := by simp only [MS.mayM, Bool.and_eq_true] at h; exact h.1.1
  have h1 := (s.hasF_iff f).1 hf
  unfold cls
  rw [hasF_of_n (s.mark_n f c o)]
  by_cases e : g = f
  · subst e; simp [hf, MS.mark, h]
  · rw [if_neg e]
    by_cases hb : s.hasF g = true
    · have h2 := (s.hasF_iff g).1 hb
      simp only [hb, if_true, MS.mark, h]
      rw [if_neg (by omega)]
    · simp [hb]
theorem own_mark (s : MS) (f c o g : Int) (h : s.mayM f c = true) : (s.mark f c o).own g = if g = f then o else s.own g := by
  have hf : s.hasF f = true := by simp only [MS.mayM, Bool.and_eq_true] at h; exact h.1.1
  have h1 := (s.hasF_iff f).1 hf
  unfold own
  rw [hasF_of_n (s.mark_n f c o)]
  by_cases e : g = f
  · subst e; simp [hf, MS.mark, h]
  · rw [if_neg e]
    by_cases hb : s.hasF g = true
    · have h2 := (s.hasF_iff g).1 hb
      simp only [hb, if_true, MS.mark, h]
      rw [if_neg (by omega)]
    · simp [hb]
theorem rd_fresh (n : Nat) (b : Int) : (fresh n).rd b = 0 := by unfold rd fresh; split <;> rfl
theorem mayM_mk (s : MS) (f c : Int) (h : s.hasF f = true) (h0 : 0 ≤ c) (h1 : c ≤ 5) : s.mayM f c = true := by simp [MS.mayM, h, h0, h1]
end MS

end Go.Proofs.Ytpffilnebffijaa

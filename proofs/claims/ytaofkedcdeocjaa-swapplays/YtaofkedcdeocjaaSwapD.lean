/-
  Package swap: plain facts on slots and frames.
-/
import Derived.Test.YtaofkedcdeocjaaSwapC
namespace Go.Proofs.Ytaofkedcdeocjaa
open Go.ChangeShapes Go.WideShapes Go.ChangeAt Go.RowKit

namespace QS
theorem cnt_set (U : Nat → Bool) (f : Nat) (u : Bool) : ∀ k, (1 ≤ f ∧ f ≤ k → cnt (fun i => if i = f then u else U i) k + (if U f = true then 0 else 1) = cnt U k + (if u = true then 0 else 1)) ∧ (k < f → cnt (fun i => if i = f then u else U i) k = cnt U k) := by
  intro k
  induction k with
  | zero => exact ⟨fun h => by omega, fun _ => rfl⟩
  | succ k ih =>
    have e1 : cnt (fun i => if i = f then u else U i) (k + 1) = cnt (fun i => if i = f then u else U i) k + if (if k + 1 = f then u else U (k + 1)) = true then 0 else 1 := rfl
    have e2 : cnt U (k + 1) = cnt U k + if U (k + 1) = true then 0 else 1 := rfl
    refine ⟨fun h => ?_, fun h => ?_⟩
    · by_cases e : k + 1 = f
      · have := ih.2 (by omega)
        rw [e1, e2, this, if_pos e, ← e]; omega
      · have := ih.1 (by omega)
        rw [e1, e2, if_neg e]; omega
    · have := ih.2 (by omega)
      rw [e1, e2, this, if_neg (show ¬ k + 1 = f by omega)]
theorem left_lay (q : QS) (f : Nat) (u : Bool) (g : Nat → Int) (h1 : 1 ≤ f) (h2 : f < 8) : (q.lay f u g).left + (if q.U f = true then 0 else 1) = q.left + (if u = true then 0 else 1) :=
  (cnt_set q.U f u 7).1 ⟨h1, by omega⟩
theorem lay_U (q : QS) (f : Nat) (u : Bool) (g : Nat → Int) (k : Nat) : (q.lay f u g).U k = if k = f then u else q.U k := rfl
theorem lay_W (q : QS) (f : Nat) (u : Bool) (g : Nat → Int) (k : Nat) : (q.lay f u g).W k = if k = f then g else q.W k := rfl
theorem cnt_le (U : Nat → Bool) : ∀ k, cnt U k ≤ k
  | 0 => Nat.le_refl _
  | k + 1 => by have := cnt_le U k; unfold cnt; split <;> omega
theorem cnt_none {U : Nat → Bool} : ∀ k, (∀ g, 1 ≤ g → g ≤ k → U g = true) → cnt U k = 0
  | 0, _ => rfl
  | k + 1, h => by unfold cnt; rw [cnt_none k (fun g h1 h2 => h g h1 (by omega)), h (k + 1) (by omega) (by omega)]; rfl
theorem cnt_some {U : Nat → Bool} {f : Nat} (h1 : 1 ≤ f) (hf : U f = false) : ∀ k, f ≤ k → 0 < cnt U k
  | 0, h => by omega
  | k + 1, h => by
    unfold cnt
    by_cases e : f = k + 1
    · rw [← e, hf]; simp
    · have := cnt_some h1 hf k (by omega); omega
theorem Free.left {q : QS} {f : Nat} (h : q.Free f) : 0 < q.left := cnt_some h.lo h.free 7 (by have := h.hi; omega)
theorem Full.left {q : QS} (h : q.Full) : q.left = 0 := cnt_none 7 (fun g h1 h2 => h g h1 (by omega))
theorem left_le (q : QS) : q.left ≤ 7 := cnt_le _ _
theorem isOut_at (q : QS) (k : Nat) (h1 : 1 ≤ k) (h2 : k < 8) : q.isOut (k : Int) = q.U k := by
  unfold isOut; rw [decide_eq_true (by omega), decide_eq_true (by omega), Int.toNat_natCast]; rfl
theorem isOut_off (q : QS) (k : Int) (h : k < 1 ∨ 8 ≤ k) : q.isOut k = false := by
  rw [Bool.eq_false_iff, Ne, isOut_iff]; omega
theorem wok_at (q : QS) (k o : Nat) (h1 : 1 ≤ k) (h2 : k < 8) (h3 : o < 8) : q.wok (k : Int) (o : Int) = q.U k := by
  unfold wok; rw [isOut_at q k h1 h2, decide_eq_true (by omega), decide_eq_true (by omega)]; simp
theorem wd_at (q : QS) (k o : Nat) (h1 : 1 ≤ k) (h2 : k < 8) (h3 : o < 8) : q.wd (k : Int) (o : Int) = if q.U k = true then q.W k o else 0 := by
  unfold wd; rw [wok_at q k o h1 h2 h3]; rfl
end QS
theorem MS.frame_write (s : MS) (f a x : Int) (o : Nat) (h : s.hasW a = true) : (s.write a x).frame f o = if f * 8 + o = a then x else s.frame f o := MS.rd_write s a x _ h
theorem MS.lay_n (s : MS) (f : Int) (g : Nat → Int) : (s.lay f g).n = s.n := rfl
theorem MS.frame_lay (s : MS) (f e : Int) (g : Nat → Int) (o : Nat) (hf : s.hasF f = true) (he : s.hasF e = true) (ho : o < 8) : (s.lay f g).frame e o = if e = f then g o else s.frame e o := by
  obtain ⟨f0, f1⟩ := (s.hasF_iff f).1 hf
  obtain ⟨e0, e1⟩ := (s.hasF_iff e).1 he
  have hW : ∀ t : MS, t.n = s.n → t.hasW (e * 8 + o) = true := fun t h => (t.hasW_iff _).2 (by rw [h]; omega)
  unfold MS.frame MS.rd
  rw [hW (s.lay f g) rfl, hW s rfl]
  simp only [if_true]
  show (if (e * 8 + (o : Int)).toNat / 8 = f.toNat then g ((e * 8 + (o : Int)).toNat % 8) else s.W _) = _
  by_cases h : e = f
  · rw [if_pos (by omega), if_pos h, show (e * 8 + (o : Int)).toNat % 8 = o by omega]
  · rw [if_neg (by omega), if_neg h]
end Go.Proofs.Ytaofkedcdeocjaa
